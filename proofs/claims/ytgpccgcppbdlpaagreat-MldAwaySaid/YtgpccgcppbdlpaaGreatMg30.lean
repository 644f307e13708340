/-
  Texts joined: Pseudo, RefPseudo.
-/
import Derived.Test.YtgpccgcppbdlpaaGreatMg00
import Derived.Test.YtgpccgcppbdlpaaGreatMg07
import Derived.Test.YtgpccgcppbdlpaaGreatMg01
import Derived.Deep.RegionHeld3
import Derived.Test.YtgpccgcppbdlpaaGreatMg09
/-
  The contract of sum.Pseudo.
-/
namespace Go.Proofs.YtgpccgcppbdlpaaGreat
open Go.RowKit
set_option linter.unusedVariables false

/-- What is summed ahead of a packet's body. -/
def pseudoL (v6 : Bool) (f t : List UInt8) (p s : Nat) : List UInt8 :=
  if v6 then f ++ (t ++ (putL s 4 ++ putL p 4)) else f.take 4 ++ (t.take 4 ++ (putL p 2 ++ putL s 2))
theorem u64_nat (a : Int) : IntKind.u64.wrap a = ((a % 18446744073709551616).toNat : Int) := by
  simp only [IntKind.wrap_u64]; omega
theorem low8 (a : Int) : bitsN (a % 18446744073709551616).toNat 0 8 = (a % 256).toNat := by
  unfold bitsN
  rw [show clampN 0 64 = 0 from rfl, show clampN 8 64 = 8 from rfl]
  omega
theorem put_two (n : Nat) (hn : n ≤ 18446744073709551615) (w : World) : Calls Tryz.prog 60 #[.int .u64 n, .int .i64 2] w fun e w' => e = .returned (.string (Str (putL n 2))) ∧ Below w.heap.size w w' := put_any n (by omega) 2 w
theorem put_four (n : Nat) (hn : n ≤ 18446744073709551615) (w : World) : Calls Tryz.prog 60 #[.int .u64 n, .int .i64 4] w fun e w' => e = .returned (.string (Str (putL n 4))) ∧ Below w.heap.size w w' := put_any n (by omega) 4 w


theorem row_to {P : Program} {b o : Nat} {l : List UInt8} (src dst e : TypeId) (hs : P.underlying src = some (.slice e)) (he : P.underlying e = some (.int .u8)) (hd : P.underlying dst = some .string) (n cap : Nat) (hn : n ≤ l.length) :
    ∀ w : World, RowAt w b o l → (convert src dst (.slice (some ⟨b, o, none⟩) n cap)).run P w = .ok (.string (Str (l.take n))) w := fun w hr => run_string_row src dst e hs he hd hr n cap hn

/-- What the call made lies beside what was there. -/
def PsB (w w' : World) : Prop := w.heap.size + 1 < w'.heap.size ∧ Below w.heap.size w w'
theorem psk {w w' w'' : World} {la lb : List UInt8} (h : RowAt w' w.heap.size 1 la ∧ RowAt w' (w.heap.size + 1) 1 lb ∧ PsB w w') (hb : Below w'.heap.size w' w'') :
    RowAt w'' w.heap.size 1 la ∧ RowAt w'' (w.heap.size + 1) 1 lb ∧ PsB w w'' := by
  obtain ⟨h0, h1, h2, h3⟩ := h
  exact ⟨h0.below (by omega) hb, h1.below h2 hb, by have := hb.size; omega, bstep h3 hb⟩
theorem psk_drew {w w' : World} {la lb : List UInt8} (h : RowAt w' w.heap.size 1 la ∧ RowAt w' (w.heap.size + 1) 1 lb ∧ PsB w w') (n : Nat) : RowAt (w'.drewN n) w.heap.size 1 la ∧ RowAt (w'.drewN n) (w.heap.size + 1) 1 lb ∧ PsB w (w'.drewN n) :=
  psk h (bdrewN (Below.refl _ _) n)

set_option maxHeartbeats 1000000 in
theorem pseudo_any (va vb : Bool) (la lb : List UInt8) (ha : la.length = 16) (hb : lb.length = 16) (p s : Int) (w : World) :
    Calls Tryz.prog 68 #[.agg (addrC va la).toArray, .agg (addrC vb lb).toArray, .int .i64 p, .int .i64 s] w
      fun e w' => e = .returned (.string (Str (pseudoL (va || vb) la lb (p % 256).toNat (s % 18446744073709551616).toNat))) ∧ Below w.heap.size w w' := by
  have HP := Lib.hid (u64_nat p)
  have HS := Lib.hid (u64_nat s)
  have HB := Lib.hid (low8 p)
  have hP : (p % 256).toNat ≤ 255 := by omega
  have hS : (s % 18446744073709551616).toNat ≤ 18446744073709551615 := by omega
  generalize hpn : (p % 256).toNat = P at hP HB ⊢
  have Hpn := Lib.hid hpn; clear hpn
  generalize hsn : (s % 18446744073709551616).toNat = S at hS HS ⊢
  have Hsn := Lib.hid hsn; clear hsn
  have hA16 := row_to (P := Tryz.prog) (b := w.heap.size) (o := 1) (l := la) 83 9 5 Tryz.underlying83 Tryz.underlying5 Tryz.underlying9 16 16 (by omega)
  have hA4 := row_to (P := Tryz.prog) (b := w.heap.size) (o := 1) (l := la) 83 9 5 Tryz.underlying83 Tryz.underlying5 Tryz.underlying9 4 16 (by omega)
  have hB16 := row_to (P := Tryz.prog) (b := w.heap.size + 1) (o := 1) (l := lb) 83 9 5 Tryz.underlying83 Tryz.underlying5 Tryz.underlying9 16 16 (by omega)
  have hB4 := row_to (P := Tryz.prog) (b := w.heap.size + 1) (o := 1) (l := lb) 83 9 5 Tryz.underlying83 Tryz.underlying5 Tryz.underlying9 4 16 (by omega)
  rw [List.take_of_length_le (by omega)] at hA16 hB16
  have c1 := run_cat (P := Tryz.prog) la lb (by omega)
  have c2 := run_cat (P := Tryz.prog) (la ++ lb) (putL S 4) (by simp [putL_length]; omega)
  have c3 := run_cat (P := Tryz.prog) (la ++ (lb ++ putL S 4)) (putL P 4) (by simp [putL_length]; omega)
  have d1 := run_cat (P := Tryz.prog) (la.take 4) (lb.take 4) (by simp; omega)
  have d2 := run_cat (P := Tryz.prog) (la.take 4 ++ lb.take 4) (putL P 2) (by simp [putL_length]; omega)
  have d3 := run_cat (P := Tryz.prog) (la.take 4 ++ (lb.take 4 ++ putL P 2)) (putL S 2) (by simp [putL_length]; omega)
  simp only [List.append_assoc] at c2 c3 d2 d3
  have Ha := Lib.hid ha
  have Hb := Lib.hid hb
  clear ha hb
  go_enter Tryz.func68, Tryz.ntmps68
  go_wp2_with fail
  have hr0 := (rowAt_box w va la 24 (0, 0) _ rfl).below (B := w.heap.size + 1) (by omega) ((Below.refl (w.heap.size + 1) (w.alloc (.cells (addrC va la).toArray 24))).alloc (by simp) (.cells (addrC vb lb).toArray 24))
  have hr1 := rowAt_box (w.alloc (.cells (addrC va la).toArray 24)) vb lb 24 (0, 0) (w.heap.size + 1) (by simp)
  have hb0 : Below w.heap.size w ((w.alloc (.cells (addrC va la).toArray 24)).alloc (.cells (addrC vb lb).toArray 24)) := ((Below.refl _ _).alloc (Nat.le_refl _) _).alloc (by simp) _
  have hz : w.heap.size + 1 < ((w.alloc (.cells (addrC va la).toArray 24)).alloc (.cells (addrC vb lb).toArray 24)).heap.size := by simp
  have hv0 : ((w.alloc (.cells (addrC va la).toArray 24)).alloc (.cells (addrC vb lb).toArray 24)).cell? ⟨w.heap.size, 0, none⟩ = some (.bool va) := by simp [addrC]
  have hv1 : ((w.alloc (.cells (addrC va la).toArray 24)).alloc (.cells (addrC vb lb).toArray 24)).cell? ⟨w.heap.size + 1, 0, none⟩ = some (.bool vb) := by simp [addrC]
  generalize (w.alloc (.cells (addrC va la).toArray 24)).alloc (.cells (addrC vb lb).toArray 24) = W at hr0 hr1 hb0 hz hv0 hv1 ⊢
  have hp0 : RowAt W w.heap.size 1 la ∧ RowAt W (w.heap.size + 1) 1 lb ∧ PsB w W := ⟨hr0, hr1, hz, hb0⟩
  have Hp0 := Lib.hid hp0; clear hp0 hb0 hr0 hr1 hz
  rw [HP.out]
  refine (bits_any _ (by omega) 0 8 _).mono ?_
  rintro e w1 ⟨rfl, d, rfl⟩
  rw [HB.out]
  cases va with
  | true =>
    go_wp2_with fail
    have hws := HS.out
    go_region_held3 (fun w' => RowAt w' w.heap.size 1 la ∧ RowAt w' (w.heap.size + 1) 1 lb ∧ PsB w w') (first | assumption | exact psk_drew Hp0.out (d + 1)) (first
      | (go_at_call 60; refine (put_four _ (by first | exact hS | omega) _).mono ?_; rintro e w3 ⟨rfl, hb3⟩; have hk := psk (w := w) (la := la) (lb := lb) (by assumption) hb3; clear hb3))
    go_wp2_with fail
    go_ret
    exact ⟨rfl, hk.2.2.2⟩
  | false =>
    cases vb with
    | true =>
      go_wp2_with fail
      have hws := HS.out
      go_region_held3 (fun w' => RowAt w' w.heap.size 1 la ∧ RowAt w' (w.heap.size + 1) 1 lb ∧ PsB w w') (first | assumption | exact psk_drew Hp0.out (d + 1)) (first
        | (go_at_call 60; refine (put_four _ (by first | exact hS | omega) _).mono ?_; rintro e w3 ⟨rfl, hb3⟩; have hk := psk (w := w) (la := la) (lb := lb) (by assumption) hb3; clear hb3))
      go_wp2_with fail
      go_ret
      exact ⟨rfl, hk.2.2.2⟩
    | false =>
      go_wp2_with fail
      have hws := HS.out
      go_region_held3 (fun w' => RowAt w' w.heap.size 1 la ∧ RowAt w' (w.heap.size + 1) 1 lb ∧ PsB w w') (first | assumption | exact psk_drew Hp0.out (d + 1)) (first
        | (go_at_call 60; refine (put_two _ (by first | exact hS | omega) _).mono ?_; rintro e w3 ⟨rfl, hb3⟩; have hk := psk (w := w) (la := la) (lb := lb) (by assumption) hb3; clear hb3))
      go_wp2_with fail
      go_ret
      exact ⟨rfl, hk.2.2.2⟩
end Go.Proofs.YtgpccgcppbdlpaaGreat

/-
  The contract of the document's own pseudo header.
-/
namespace Go.Proofs.YtgpccgcppbdlpaaGreat
open Go.RowKit
set_option linter.unusedVariables false

theorem putL_byte (b : UInt8) : putL b.toNat 1 = [b] := by simp [putL]
theorem take_step (f : List UInt8) (l : List UInt8) (k : Nat) (h : k < l.length) : f ++ l.take k ++ [l[k]] = f ++ l.take (k + 1) := by
  rw [List.take_succ_eq_append_getElem h, List.append_assoc]




theorem take_snoc_l (l : List UInt8) (k : Nat) (h : k < l.length) : l.take k ++ [l[k]] = l.take (k + 1) := (List.take_succ_eq_append_getElem h).symm




set_option maxHeartbeats 400000 in
theorem rpseudo_a (va vb : Bool) (la lb : List UInt8) (ha : la.length = 16) (hb : lb.length = 16) (p s : Int) (w : World) (hv : va = true) :
    Calls Tryz.prog 51 #[.agg (addrC va la).toArray, .agg (addrC vb lb).toArray, .int .i64 p, .int .i64 s] w
      fun e w' => e = .returned (.string (Str (pseudoL (va || vb) la lb (p % 256).toNat (s % 18446744073709551616).toNat))) ∧ Below w.heap.size w w' := by
  have HS := Lib.hid (u64_nat s)
  have HP := Lib.hid (show (IntKind.u64.wrap p).tmod 256 = ((p % 256).toNat : Int) by rw [u64_nat, Int.tmod_eq_emod_of_nonneg (by omega)]; omega)
  have hP : (p % 256).toNat ≤ 255 := by omega
  have hS : (s % 18446744073709551616).toNat ≤ 18446744073709551615 := by omega
  generalize hpn : (p % 256).toNat = P at hP HP ⊢
  have Hpn := Lib.hid hpn; clear hpn
  generalize hsn : (s % 18446744073709551616).toNat = S at hS HS ⊢
  have Hsn := Lib.hid hsn; clear hsn
  have ha' : 16 ≤ la.length := by omega
  have hb' : 16 ≤ lb.length := by omega
  have ha'' : la.length ≤ 16 := by omega
  have hb'' : lb.length ≤ 16 := by omega
  have Ha := Lib.hid ha
  have Hb := Lib.hid hb
  clear ha hb
  have hr0 := (rowAt_box w va la 24 (0, 0) _ rfl).below (B := w.heap.size + 1) (by omega) ((Below.refl (w.heap.size + 1) (w.alloc (.cells (addrC va la).toArray 24))).alloc (by simp) (.cells (addrC vb lb).toArray 24))
  have hr1 := rowAt_box (w.alloc (.cells (addrC va la).toArray 24)) vb lb 24 (0, 0) (w.heap.size + 1) (by simp)
  have hb0 : Below w.heap.size w ((w.alloc (.cells (addrC va la).toArray 24)).alloc (.cells (addrC vb lb).toArray 24)) := ((Below.refl _ _).alloc (Nat.le_refl _) _).alloc (by simp) _
  have hz : w.heap.size + 1 < ((w.alloc (.cells (addrC va la).toArray 24)).alloc (.cells (addrC vb lb).toArray 24)).heap.size := by simp
  have hv0 : ((w.alloc (.cells (addrC va la).toArray 24)).alloc (.cells (addrC vb lb).toArray 24)).cell? ⟨w.heap.size, 0, none⟩ = some (.bool va) := by simp [addrC]
  have hv1 : ((w.alloc (.cells (addrC va la).toArray 24)).alloc (.cells (addrC vb lb).toArray 24)).cell? ⟨w.heap.size + 1, 0, none⟩ = some (.bool vb) := by simp [addrC]
  have Hp0 := Lib.hid (show RowAt ((w.alloc (.cells (addrC va la).toArray 24)).alloc (.cells (addrC vb lb).toArray 24)) w.heap.size 1 la ∧ RowAt ((w.alloc (.cells (addrC va la).toArray 24)).alloc (.cells (addrC vb lb).toArray 24)) (w.heap.size + 1) 1 lb ∧ PsB w ((w.alloc (.cells (addrC va la).toArray 24)).alloc (.cells (addrC vb lb).toArray 24)) from ⟨hr0, hr1, hz, hb0⟩)
  clear hr0 hr1 hb0 hz
  subst hv
  go_enter Tryz.func51, Tryz.ntmps51
  go_wp2_with fail
  go_loopw [9, 11] (fun t i wr => ∃ k : Nat, k ≤ 16 ∧ i = .int .i64 k ∧ t = .string (Str (la.take k)) ∧ RowAt wr w.heap.size 1 la ∧ RowAt wr (w.heap.size + 1) 1 lb ∧ PsB w wr) (fun _ i _ => 16 - (intOf i).toNat)
  case atStart => exact ⟨0, by omega, rfl, by first | rfl | simp, Hp0.out⟩
  case round _ _ wr =>
    obtain ⟨k, hk, rfl, rfl, hq⟩ := hrel
    have Hq := Lib.hid hq; clear hq
    by_cases hlt : k < 16
    · have hc := Hq.out.1 k (by omega)
      have Hs := Lib.hid (take_snoc_l la k (by omega))
      generalize hbb : la[k] = b at hc Hs
      have Hbb := Lib.hid hbb; clear hbb
      have hb8 := b.toNat_lt
      have Hby := Lib.hid (putL_byte b)
      have hrun := run_cat (P := Tryz.prog) (la.take k) [b] (by simp; omega)
      rw [Hs.out] at hrun
      have hwb : IntKind.u64.wrap (b.toNat : Int) = (b.toNat : Int) := by simp only [IntKind.wrap_u64]; omega
      go_wp2_with fail
      refine (rput_one b.toNat (by omega) _).mono ?_
      rintro e w1 ⟨rfl, hb1⟩
      rw [Hby.out]
      have Hq1 := Lib.hid (psk Hq.out hb1); clear hb1
      go_wp2_with fail
      go_roundw
      case rel => exact ⟨k + 1, by omega, by go_num, by simp, Hq1.out⟩
      case measure => simp [intOf]; omega
    · have hk16 : k = 16 := by omega
      subst hk16
      rw [show ((16 : Nat) : Int) = 16 from rfl]
      have hfull : la.take 16 = la := List.take_of_length_le (by rw [Ha.out]; omega)
      rw [hfull]
      clear hfull
      go_wp2_with fail
      go_loopw [9, 12] (fun t i wr => ∃ k : Nat, k ≤ 16 ∧ i = .int .i64 k ∧ t = .string (Str (la ++ lb.take k)) ∧ RowAt wr w.heap.size 1 la ∧ RowAt wr (w.heap.size + 1) 1 lb ∧ PsB w wr) (fun _ i _ => 16 - (intOf i).toNat)
      case atStart => exact ⟨0, by omega, rfl, by first | rfl | simp, Hq.out⟩
      case round _ _ wr =>
        obtain ⟨k, hk, rfl, rfl, hq⟩ := hrel
        have Hq := Lib.hid hq; clear hq
        by_cases hlt : k < 16
        · have hc := Hq.out.2.1 k (by omega)
          have Hs := Lib.hid (take_step (la) lb k (by omega))
          generalize hbb : lb[k] = b at hc Hs
          have Hbb := Lib.hid hbb; clear hbb
          have hb8 := b.toNat_lt
          have Hby := Lib.hid (putL_byte b)
          have hrun := run_cat (P := Tryz.prog) (la ++ lb.take k) [b] (by simp [Ha.out]; omega)
          rw [Hs.out] at hrun
          have hwb : IntKind.u64.wrap (b.toNat : Int) = (b.toNat : Int) := by simp only [IntKind.wrap_u64]; omega
          go_wp2_with fail
          refine (rput_one b.toNat (by omega) _).mono ?_
          rintro e w1 ⟨rfl, hb1⟩
          rw [Hby.out]
          have Hq1 := Lib.hid (psk Hq.out hb1); clear hb1
          go_wp2_with fail
          go_roundw
          case rel => exact ⟨k + 1, by omega, by go_num, by simp, Hq1.out⟩
          case measure => simp [intOf]; omega
        · have hk16 : k = 16 := by omega
          subst hk16
          rw [show ((16 : Nat) : Int) = 16 from rfl]
          have hfb : lb.take 16 = lb := List.take_of_length_le (by rw [Hb.out]; omega)
          rw [hfb]
          clear hfb
          have c2 := run_cat (P := Tryz.prog) (la ++ lb) (putL S 4) (by simp [putL_length]; omega)
          have c3 := run_cat (P := Tryz.prog) (la ++ (lb ++ putL S 4)) (putL P 4) (by simp [putL_length]; omega)
          simp only [List.append_assoc] at c2 c3
          go_wp2_with fail
          rw [HS.out]
          refine (rput_four S hS _).mono ?_
          rintro e w1 ⟨rfl, hb1⟩
          have Hq1 := Lib.hid (psk Hq.out hb1); clear hb1
          go_wp2_with fail
          rw [HP.out]
          refine (rput_four P (by omega) _).mono ?_
          rintro e w2 ⟨rfl, hb2⟩
          have Hq2 := Lib.hid (psk Hq1.out hb2); clear hb2
          go_wp2_with fail
          go_ret
          exact ⟨rfl, Hq2.out.2.2.2⟩

set_option maxHeartbeats 400000 in
theorem rpseudo_b (va vb : Bool) (la lb : List UInt8) (ha : la.length = 16) (hb : lb.length = 16) (p s : Int) (w : World) (hv : va = false) (hv2 : vb = true) :
    Calls Tryz.prog 51 #[.agg (addrC va la).toArray, .agg (addrC vb lb).toArray, .int .i64 p, .int .i64 s] w
      fun e w' => e = .returned (.string (Str (pseudoL (va || vb) la lb (p % 256).toNat (s % 18446744073709551616).toNat))) ∧ Below w.heap.size w w' := by
  have HS := Lib.hid (u64_nat s)
  have HP := Lib.hid (show (IntKind.u64.wrap p).tmod 256 = ((p % 256).toNat : Int) by rw [u64_nat, Int.tmod_eq_emod_of_nonneg (by omega)]; omega)
  have hP : (p % 256).toNat ≤ 255 := by omega
  have hS : (s % 18446744073709551616).toNat ≤ 18446744073709551615 := by omega
  generalize hpn : (p % 256).toNat = P at hP HP ⊢
  have Hpn := Lib.hid hpn; clear hpn
  generalize hsn : (s % 18446744073709551616).toNat = S at hS HS ⊢
  have Hsn := Lib.hid hsn; clear hsn
  have ha' : 16 ≤ la.length := by omega
  have hb' : 16 ≤ lb.length := by omega
  have ha'' : la.length ≤ 16 := by omega
  have hb'' : lb.length ≤ 16 := by omega
  have Ha := Lib.hid ha
  have Hb := Lib.hid hb
  clear ha hb
  have hr0 := (rowAt_box w va la 24 (0, 0) _ rfl).below (B := w.heap.size + 1) (by omega) ((Below.refl (w.heap.size + 1) (w.alloc (.cells (addrC va la).toArray 24))).alloc (by simp) (.cells (addrC vb lb).toArray 24))
  have hr1 := rowAt_box (w.alloc (.cells (addrC va la).toArray 24)) vb lb 24 (0, 0) (w.heap.size + 1) (by simp)
  have hb0 : Below w.heap.size w ((w.alloc (.cells (addrC va la).toArray 24)).alloc (.cells (addrC vb lb).toArray 24)) := ((Below.refl _ _).alloc (Nat.le_refl _) _).alloc (by simp) _
  have hz : w.heap.size + 1 < ((w.alloc (.cells (addrC va la).toArray 24)).alloc (.cells (addrC vb lb).toArray 24)).heap.size := by simp
  have hv0 : ((w.alloc (.cells (addrC va la).toArray 24)).alloc (.cells (addrC vb lb).toArray 24)).cell? ⟨w.heap.size, 0, none⟩ = some (.bool va) := by simp [addrC]
  have hv1 : ((w.alloc (.cells (addrC va la).toArray 24)).alloc (.cells (addrC vb lb).toArray 24)).cell? ⟨w.heap.size + 1, 0, none⟩ = some (.bool vb) := by simp [addrC]
  have Hp0 := Lib.hid (show RowAt ((w.alloc (.cells (addrC va la).toArray 24)).alloc (.cells (addrC vb lb).toArray 24)) w.heap.size 1 la ∧ RowAt ((w.alloc (.cells (addrC va la).toArray 24)).alloc (.cells (addrC vb lb).toArray 24)) (w.heap.size + 1) 1 lb ∧ PsB w ((w.alloc (.cells (addrC va la).toArray 24)).alloc (.cells (addrC vb lb).toArray 24)) from ⟨hr0, hr1, hz, hb0⟩)
  clear hr0 hr1 hb0 hz
  subst hv hv2
  go_enter Tryz.func51, Tryz.ntmps51
  go_wp2_with fail
  go_loopw [9, 11] (fun t i wr => ∃ k : Nat, k ≤ 16 ∧ i = .int .i64 k ∧ t = .string (Str (la.take k)) ∧ RowAt wr w.heap.size 1 la ∧ RowAt wr (w.heap.size + 1) 1 lb ∧ PsB w wr) (fun _ i _ => 16 - (intOf i).toNat)
  case atStart => exact ⟨0, by omega, rfl, by first | rfl | simp, Hp0.out⟩
  case round _ _ wr =>
    obtain ⟨k, hk, rfl, rfl, hq⟩ := hrel
    have Hq := Lib.hid hq; clear hq
    by_cases hlt : k < 16
    · have hc := Hq.out.1 k (by omega)
      have Hs := Lib.hid (take_snoc_l la k (by omega))
      generalize hbb : la[k] = b at hc Hs
      have Hbb := Lib.hid hbb; clear hbb
      have hb8 := b.toNat_lt
      have Hby := Lib.hid (putL_byte b)
      have hrun := run_cat (P := Tryz.prog) (la.take k) [b] (by simp; omega)
      rw [Hs.out] at hrun
      have hwb : IntKind.u64.wrap (b.toNat : Int) = (b.toNat : Int) := by simp only [IntKind.wrap_u64]; omega
      go_wp2_with fail
      refine (rput_one b.toNat (by omega) _).mono ?_
      rintro e w1 ⟨rfl, hb1⟩
      rw [Hby.out]
      have Hq1 := Lib.hid (psk Hq.out hb1); clear hb1
      go_wp2_with fail
      go_roundw
      case rel => exact ⟨k + 1, by omega, by go_num, by simp, Hq1.out⟩
      case measure => simp [intOf]; omega
    · have hk16 : k = 16 := by omega
      subst hk16
      rw [show ((16 : Nat) : Int) = 16 from rfl]
      have hfull : la.take 16 = la := List.take_of_length_le (by rw [Ha.out]; omega)
      rw [hfull]
      clear hfull
      go_wp2_with fail
      go_loopw [9, 12] (fun t i wr => ∃ k : Nat, k ≤ 16 ∧ i = .int .i64 k ∧ t = .string (Str (la ++ lb.take k)) ∧ RowAt wr w.heap.size 1 la ∧ RowAt wr (w.heap.size + 1) 1 lb ∧ PsB w wr) (fun _ i _ => 16 - (intOf i).toNat)
      case atStart => exact ⟨0, by omega, rfl, by first | rfl | simp, Hq.out⟩
      case round _ _ wr =>
        obtain ⟨k, hk, rfl, rfl, hq⟩ := hrel
        have Hq := Lib.hid hq; clear hq
        by_cases hlt : k < 16
        · have hc := Hq.out.2.1 k (by omega)
          have Hs := Lib.hid (take_step (la) lb k (by omega))
          generalize hbb : lb[k] = b at hc Hs
          have Hbb := Lib.hid hbb; clear hbb
          have hb8 := b.toNat_lt
          have Hby := Lib.hid (putL_byte b)
          have hrun := run_cat (P := Tryz.prog) (la ++ lb.take k) [b] (by simp [Ha.out]; omega)
          rw [Hs.out] at hrun
          have hwb : IntKind.u64.wrap (b.toNat : Int) = (b.toNat : Int) := by simp only [IntKind.wrap_u64]; omega
          go_wp2_with fail
          refine (rput_one b.toNat (by omega) _).mono ?_
          rintro e w1 ⟨rfl, hb1⟩
          rw [Hby.out]
          have Hq1 := Lib.hid (psk Hq.out hb1); clear hb1
          go_wp2_with fail
          go_roundw
          case rel => exact ⟨k + 1, by omega, by go_num, by simp, Hq1.out⟩
          case measure => simp [intOf]; omega
        · have hk16 : k = 16 := by omega
          subst hk16
          rw [show ((16 : Nat) : Int) = 16 from rfl]
          have hfb : lb.take 16 = lb := List.take_of_length_le (by rw [Hb.out]; omega)
          rw [hfb]
          clear hfb
          have c2 := run_cat (P := Tryz.prog) (la ++ lb) (putL S 4) (by simp [putL_length]; omega)
          have c3 := run_cat (P := Tryz.prog) (la ++ (lb ++ putL S 4)) (putL P 4) (by simp [putL_length]; omega)
          simp only [List.append_assoc] at c2 c3
          go_wp2_with fail
          rw [HS.out]
          refine (rput_four S hS _).mono ?_
          rintro e w1 ⟨rfl, hb1⟩
          have Hq1 := Lib.hid (psk Hq.out hb1); clear hb1
          go_wp2_with fail
          rw [HP.out]
          refine (rput_four P (by omega) _).mono ?_
          rintro e w2 ⟨rfl, hb2⟩
          have Hq2 := Lib.hid (psk Hq1.out hb2); clear hb2
          go_wp2_with fail
          go_ret
          exact ⟨rfl, Hq2.out.2.2.2⟩

set_option maxHeartbeats 400000 in
theorem rpseudo_c (va vb : Bool) (la lb : List UInt8) (ha : la.length = 16) (hb : lb.length = 16) (p s : Int) (w : World) (hv : va = false) (hv2 : vb = false) :
    Calls Tryz.prog 51 #[.agg (addrC va la).toArray, .agg (addrC vb lb).toArray, .int .i64 p, .int .i64 s] w
      fun e w' => e = .returned (.string (Str (pseudoL (va || vb) la lb (p % 256).toNat (s % 18446744073709551616).toNat))) ∧ Below w.heap.size w w' := by
  have HS := Lib.hid (u64_nat s)
  have HP := Lib.hid (show (IntKind.u64.wrap p).tmod 256 = ((p % 256).toNat : Int) by rw [u64_nat, Int.tmod_eq_emod_of_nonneg (by omega)]; omega)
  have hP : (p % 256).toNat ≤ 255 := by omega
  have hS : (s % 18446744073709551616).toNat ≤ 18446744073709551615 := by omega
  generalize hpn : (p % 256).toNat = P at hP HP ⊢
  have Hpn := Lib.hid hpn; clear hpn
  generalize hsn : (s % 18446744073709551616).toNat = S at hS HS ⊢
  have Hsn := Lib.hid hsn; clear hsn
  have ha' : 16 ≤ la.length := by omega
  have hb' : 16 ≤ lb.length := by omega
  have ha'' : la.length ≤ 16 := by omega
  have hb'' : lb.length ≤ 16 := by omega
  have Ha := Lib.hid ha
  have Hb := Lib.hid hb
  clear ha hb
  have hr0 := (rowAt_box w va la 24 (0, 0) _ rfl).below (B := w.heap.size + 1) (by omega) ((Below.refl (w.heap.size + 1) (w.alloc (.cells (addrC va la).toArray 24))).alloc (by simp) (.cells (addrC vb lb).toArray 24))
  have hr1 := rowAt_box (w.alloc (.cells (addrC va la).toArray 24)) vb lb 24 (0, 0) (w.heap.size + 1) (by simp)
  have hb0 : Below w.heap.size w ((w.alloc (.cells (addrC va la).toArray 24)).alloc (.cells (addrC vb lb).toArray 24)) := ((Below.refl _ _).alloc (Nat.le_refl _) _).alloc (by simp) _
  have hz : w.heap.size + 1 < ((w.alloc (.cells (addrC va la).toArray 24)).alloc (.cells (addrC vb lb).toArray 24)).heap.size := by simp
  have hv0 : ((w.alloc (.cells (addrC va la).toArray 24)).alloc (.cells (addrC vb lb).toArray 24)).cell? ⟨w.heap.size, 0, none⟩ = some (.bool va) := by simp [addrC]
  have hv1 : ((w.alloc (.cells (addrC va la).toArray 24)).alloc (.cells (addrC vb lb).toArray 24)).cell? ⟨w.heap.size + 1, 0, none⟩ = some (.bool vb) := by simp [addrC]
  have Hp0 := Lib.hid (show RowAt ((w.alloc (.cells (addrC va la).toArray 24)).alloc (.cells (addrC vb lb).toArray 24)) w.heap.size 1 la ∧ RowAt ((w.alloc (.cells (addrC va la).toArray 24)).alloc (.cells (addrC vb lb).toArray 24)) (w.heap.size + 1) 1 lb ∧ PsB w ((w.alloc (.cells (addrC va la).toArray 24)).alloc (.cells (addrC vb lb).toArray 24)) from ⟨hr0, hr1, hz, hb0⟩)
  clear hr0 hr1 hb0 hz
  subst hv hv2
  go_enter Tryz.func51, Tryz.ntmps51
  go_wp2_with fail
  go_loopw [9, 11] (fun t i wr => ∃ k : Nat, k ≤ 4 ∧ i = .int .i64 k ∧ t = .string (Str (la.take k)) ∧ RowAt wr w.heap.size 1 la ∧ RowAt wr (w.heap.size + 1) 1 lb ∧ PsB w wr) (fun _ i _ => 4 - (intOf i).toNat)
  case atStart => exact ⟨0, by omega, rfl, by first | rfl | simp, Hp0.out⟩
  case round _ _ wr =>
    obtain ⟨k, hk, rfl, rfl, hq⟩ := hrel
    have Hq := Lib.hid hq; clear hq
    by_cases hlt : k < 4
    · have hc := Hq.out.1 k (by omega)
      have Hs := Lib.hid (take_snoc_l la k (by omega))
      generalize hbb : la[k] = b at hc Hs
      have Hbb := Lib.hid hbb; clear hbb
      have hb8 := b.toNat_lt
      have Hby := Lib.hid (putL_byte b)
      have hrun := run_cat (P := Tryz.prog) (la.take k) [b] (by simp; omega)
      rw [Hs.out] at hrun
      have hwb : IntKind.u64.wrap (b.toNat : Int) = (b.toNat : Int) := by simp only [IntKind.wrap_u64]; omega
      go_wp2_with fail
      refine (rput_one b.toNat (by omega) _).mono ?_
      rintro e w1 ⟨rfl, hb1⟩
      rw [Hby.out]
      have Hq1 := Lib.hid (psk Hq.out hb1); clear hb1
      go_wp2_with fail
      go_roundw
      case rel => exact ⟨k + 1, by omega, by go_num, by simp, Hq1.out⟩
      case measure => simp [intOf]; omega
    · have hk16 : k = 4 := by omega
      subst hk16
      rw [show ((4 : Nat) : Int) = 4 from rfl]
      go_wp2_with fail
      go_loopw [9, 12] (fun t i wr => ∃ k : Nat, k ≤ 4 ∧ i = .int .i64 k ∧ t = .string (Str (la.take 4 ++ lb.take k)) ∧ RowAt wr w.heap.size 1 la ∧ RowAt wr (w.heap.size + 1) 1 lb ∧ PsB w wr) (fun _ i _ => 4 - (intOf i).toNat)
      case atStart => exact ⟨0, by omega, rfl, by first | rfl | simp, Hq.out⟩
      case round _ _ wr =>
        obtain ⟨k, hk, rfl, rfl, hq⟩ := hrel
        have Hq := Lib.hid hq; clear hq
        by_cases hlt : k < 4
        · have hc := Hq.out.2.1 k (by omega)
          have Hs := Lib.hid (take_step (la.take 4) lb k (by omega))
          generalize hbb : lb[k] = b at hc Hs
          have Hbb := Lib.hid hbb; clear hbb
          have hb8 := b.toNat_lt
          have Hby := Lib.hid (putL_byte b)
          have hrun := run_cat (P := Tryz.prog) (la.take 4 ++ lb.take k) [b] (by simp; omega)
          rw [Hs.out] at hrun
          have hwb : IntKind.u64.wrap (b.toNat : Int) = (b.toNat : Int) := by simp only [IntKind.wrap_u64]; omega
          go_wp2_with fail
          refine (rput_one b.toNat (by omega) _).mono ?_
          rintro e w1 ⟨rfl, hb1⟩
          rw [Hby.out]
          have Hq1 := Lib.hid (psk Hq.out hb1); clear hb1
          go_wp2_with fail
          go_roundw
          case rel => exact ⟨k + 1, by omega, by go_num, by simp, Hq1.out⟩
          case measure => simp [intOf]; omega
        · have hk16 : k = 4 := by omega
          subst hk16
          rw [show ((4 : Nat) : Int) = 4 from rfl]
          have d2 := run_cat (P := Tryz.prog) (la.take 4 ++ lb.take 4) (putL P 2) (by simp [putL_length]; omega)
          have d3 := run_cat (P := Tryz.prog) (la.take 4 ++ (lb.take 4 ++ putL P 2)) (putL S 2) (by simp [putL_length]; omega)
          simp only [List.append_assoc] at d2 d3
          go_wp2_with fail
          rw [HP.out]
          refine (rput_two P (by omega) _).mono ?_
          rintro e w1 ⟨rfl, hb1⟩
          have Hq1 := Lib.hid (psk Hq.out hb1); clear hb1
          go_wp2_with fail
          rw [HS.out]
          refine (rput_two S hS _).mono ?_
          rintro e w2 ⟨rfl, hb2⟩
          have Hq2 := Lib.hid (psk Hq1.out hb2); clear hb2
          go_wp2_with fail
          go_ret
          exact ⟨rfl, Hq2.out.2.2.2⟩

theorem rpseudo_any (va vb : Bool) (la lb : List UInt8) (ha : la.length = 16) (hb : lb.length = 16) (p s : Int) (w : World) :
    Calls Tryz.prog 51 #[.agg (addrC va la).toArray, .agg (addrC vb lb).toArray, .int .i64 p, .int .i64 s] w
      fun e w' => e = .returned (.string (Str (pseudoL (va || vb) la lb (p % 256).toNat (s % 18446744073709551616).toNat))) ∧ Below w.heap.size w w' := by
  cases hva : va with
  | true => exact rpseudo_a true vb la lb ha hb p s w rfl
  | false =>
    cases hvb : vb with
    | true => exact rpseudo_b false true la lb ha hb p s w rfl rfl
    | false => exact rpseudo_c false false la lb ha hb p s w rfl rfl
end Go.Proofs.YtgpccgcppbdlpaaGreat

