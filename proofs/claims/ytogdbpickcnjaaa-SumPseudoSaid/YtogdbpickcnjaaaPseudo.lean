/-
  The contract of sum.Pseudo.
-/
import Derived.Test.YtogdbpickcnjaaaOct
import Derived.Test.YtogdbpickcnjaaaOctBits
import Derived.Test.YtogdbpickcnjaaaPureHex
import Derived.Test.YtogdbpickcnjaaaAddr
import Derived.Deep.RegionHeld3
namespace Go.Proofs.Ytogdbpickcnjaaa
open Go.RowKit
set_option linter.unusedVariables false

/-- What is summed ahead of a packet's body. -/
def pseudoL (v6 : Bool) (f t : List UInt8) (p s : Nat) : List UInt8 :=
  if v6 then f ++ (t ++ (putL s 4 ++ putL p 4)) else f.take 4 ++ (t.take 4 ++ (putL p 2 ++ putL s 2))
theorem u64_nat (a : Int) : IntKind.u64.wrap a = ((a % 18446744073709551616).toNat : Int) := by
  simp only [IntKind.wrap_u64]; omega
theorem low8 (a : Int) : bitsN (a % 18446744073709551616).toNat 0 8 = (a % 256).toNat := by
  unfold bitsN
  rw [show clampN 0 64 = 0 from rfl, show clampN 8 64 = 8 from rfl]
  omega
theorem put_two (n : Nat) (hn : n ≤ 18446744073709551615) (w : World) : Calls Try.prog 29 #[.int .u64 n, .int .i64 2] w fun e w' => e = .returned (.string (Str (putL n 2))) ∧ Below w.heap.size w w' := put_any n (by omega) 2 w
theorem put_four (n : Nat) (hn : n ≤ 18446744073709551615) (w : World) : Calls Try.prog 29 #[.int .u64 n, .int .i64 4] w fun e w' => e = .returned (.string (Str (putL n 4))) ∧ Below w.heap.size w w' := put_any n (by omega) 4 w


theorem row_to {P : Program} {b o : Nat} {l : List UInt8} (src dst e : TypeId) (hs : P.underlying src = some (.slice e)) (he : P.underlying e = some (.int .u8)) (hd : P.underlying dst = some .string) (n cap : Nat) (hn : n ≤ l.length) :
    ∀ w : World, RowAt w b o l → (convert src dst (.slice (some ⟨b, o, none⟩) n cap)).run P w = .ok (.string (Str (l.take n))) w := fun w hr => run_string_row src dst e hs he hd hr n cap hn

/-- What the call made lies beside what was there. -/
def PsB (w w' : World) : Prop := w.heap.size + 1 < w'.heap.size ∧ Below w.heap.size w w'
theorem psk {w w' w'' : World} {la lb : List UInt8} (h : RowAt w' w.heap.size 1 la ∧ RowAt w' (w.heap.size + 1) 1 lb ∧ PsB w w') (hb : Below w'.heap.size w' w'') :
    RowAt w'' w.heap.size 1 la ∧ RowAt w'' (w.heap.size + 1) 1 lb ∧ PsB w w'' := by
  obtain ⟨h0, h1, h2, h3⟩ := h
  exact ⟨h0.below (by omega) hb, h1.below h2 hb, by have := hb.size; omega, bstep h3 hb⟩
theorem psk_drew {w w' : World} {la lb : List UInt8} (h : RowAt w' w.heap.size 1 la ∧ RowAt w' (w.heap.size + 1) 1 lb ∧ PsB w w') (n : Nat) : RowAt (w'.drewN n) w.heap.size 1 la ∧ RowAt (w'.drewN n) (w.heap.size + 1) 1 lb ∧ PsB w (w'.drewN n) :=
  psk h (bdrewN (Below.refl _ _) n)

set_option maxHeartbeats 1000000 in
theorem pseudo_any (va vb : Bool) (la lb : List UInt8) (ha : la.length = 16) (hb : lb.length = 16) (p s : Int) (w : World) :
    Calls Try.prog 22 #[.agg (addrC va la).toArray, .agg (addrC vb lb).toArray, .int .i64 p, .int .i64 s] w
      fun e w' => e = .returned (.string (Str (pseudoL (va || vb) la lb (p % 256).toNat (s % 18446744073709551616).toNat))) ∧ Below w.heap.size w w' := by
  have HP := Lib.hid (u64_nat p)
  have HS := Lib.hid (u64_nat s)
  have HB := Lib.hid (low8 p)
  have hP : (p % 256).toNat ≤ 255 := by omega
  have hS : (s % 18446744073709551616).toNat ≤ 18446744073709551615 := by omega
  generalize hpn : (p % 256).toNat = P at hP HB ⊢
  have Hpn := Lib.hid hpn; clear hpn
  generalize hsn : (s % 18446744073709551616).toNat = S at hS HS ⊢
  have Hsn := Lib.hid hsn; clear hsn
  have hA16 := row_to (P := Try.prog) (b := w.heap.size) (o := 1) (l := la) 49 9 5 Try.underlying49 Try.underlying5 Try.underlying9 16 16 (by omega)
  have hA4 := row_to (P := Try.prog) (b := w.heap.size) (o := 1) (l := la) 49 9 5 Try.underlying49 Try.underlying5 Try.underlying9 4 16 (by omega)
  have hB16 := row_to (P := Try.prog) (b := w.heap.size + 1) (o := 1) (l := lb) 49 9 5 Try.underlying49 Try.underlying5 Try.underlying9 16 16 (by omega)
  have hB4 := row_to (P := Try.prog) (b := w.heap.size + 1) (o := 1) (l := lb) 49 9 5 Try.underlying49 Try.underlying5 Try.underlying9 4 16 (by omega)
  rw [List.take_of_length_le (by omega)] at hA16 hB16
  have c1 := run_cat (P := Try.prog) la lb (by omega)
  have c2 := run_cat (P := Try.prog) (la ++ lb) (putL S 4) (by simp [putL_length]; omega)
  have c3 := run_cat (P := Try.prog) (la ++ (lb ++ putL S 4)) (putL P 4) (by simp [putL_length]; omega)
  have d1 := run_cat (P := Try.prog) (la.take 4) (lb.take 4) (by simp; omega)
  have d2 := run_cat (P := Try.prog) (la.take 4 ++ lb.take 4) (putL P 2) (by simp [putL_length]; omega)
  have d3 := run_cat (P := Try.prog) (la.take 4 ++ (lb.take 4 ++ putL P 2)) (putL S 2) (by simp [putL_length]; omega)
  simp only [List.append_assoc] at c2 c3 d2 d3
  have Ha := Lib.hid ha
  have Hb := Lib.hid hb
  clear ha hb
  go_enter Try.func22, Try.ntmps22
  go_wp2_with fail
  have hr0 := (rowAt_box w va la 43 (0, 0) _ rfl).below (B := w.heap.size + 1) (by omega) ((Below.refl (w.heap.size + 1) (w.alloc (.cells (addrC va la).toArray 43))).alloc (by simp) (.cells (addrC vb lb).toArray 43))
  have hr1 := rowAt_box (w.alloc (.cells (addrC va la).toArray 43)) vb lb 43 (0, 0) (w.heap.size + 1) (by simp)
  have hb0 : Below w.heap.size w ((w.alloc (.cells (addrC va la).toArray 43)).alloc (.cells (addrC vb lb).toArray 43)) := ((Below.refl _ _).alloc (Nat.le_refl _) _).alloc (by simp) _
  have hz : w.heap.size + 1 < ((w.alloc (.cells (addrC va la).toArray 43)).alloc (.cells (addrC vb lb).toArray 43)).heap.size := by simp
  have hv0 : ((w.alloc (.cells (addrC va la).toArray 43)).alloc (.cells (addrC vb lb).toArray 43)).cell? ⟨w.heap.size, 0, none⟩ = some (.bool va) := by simp [addrC]
  have hv1 : ((w.alloc (.cells (addrC va la).toArray 43)).alloc (.cells (addrC vb lb).toArray 43)).cell? ⟨w.heap.size + 1, 0, none⟩ = some (.bool vb) := by simp [addrC]
  generalize (w.alloc (.cells (addrC va la).toArray 43)).alloc (.cells (addrC vb lb).toArray 43) = W at hr0 hr1 hb0 hz hv0 hv1 ⊢
  have hp0 : RowAt W w.heap.size 1 la ∧ RowAt W (w.heap.size + 1) 1 lb ∧ PsB w W := ⟨hr0, hr1, hz, hb0⟩
  have Hp0 := Lib.hid hp0; clear hp0 hb0 hr0 hr1 hz
  rw [HP.out]
  refine (bits_any _ (by omega) 0 8 _).mono ?_
  rintro e w1 ⟨rfl, d, rfl⟩
  rw [HB.out]
  cases va with
  | true =>
    go_wp2_with fail
    have hws := HS.out
    go_region_held3 (fun w' => RowAt w' w.heap.size 1 la ∧ RowAt w' (w.heap.size + 1) 1 lb ∧ PsB w w') (first | assumption | exact psk_drew Hp0.out (d + 1)) (first
      | (go_at_call 29; refine (put_four _ (by first | exact hS | omega) _).mono ?_; rintro e w3 ⟨rfl, hb3⟩; have hk := psk (w := w) (la := la) (lb := lb) (by assumption) hb3; clear hb3))
    go_wp2_with fail
    go_ret
    exact ⟨rfl, hk.2.2.2⟩
  | false =>
    cases vb with
    | true =>
      go_wp2_with fail
      have hws := HS.out
      go_region_held3 (fun w' => RowAt w' w.heap.size 1 la ∧ RowAt w' (w.heap.size + 1) 1 lb ∧ PsB w w') (first | assumption | exact psk_drew Hp0.out (d + 1)) (first
        | (go_at_call 29; refine (put_four _ (by first | exact hS | omega) _).mono ?_; rintro e w3 ⟨rfl, hb3⟩; have hk := psk (w := w) (la := la) (lb := lb) (by assumption) hb3; clear hb3))
      go_wp2_with fail
      go_ret
      exact ⟨rfl, hk.2.2.2⟩
    | false =>
      go_wp2_with fail
      have hws := HS.out
      go_region_held3 (fun w' => RowAt w' w.heap.size 1 la ∧ RowAt w' (w.heap.size + 1) 1 lb ∧ PsB w w') (first | assumption | exact psk_drew Hp0.out (d + 1)) (first
        | (go_at_call 29; refine (put_two _ (by first | exact hS | omega) _).mono ?_; rintro e w3 ⟨rfl, hb3⟩; have hk := psk (w := w) (la := la) (lb := lb) (by assumption) hb3; clear hb3))
      go_wp2_with fail
      go_ret
      exact ⟨rfl, hk.2.2.2⟩
end Go.Proofs.Ytogdbpickcnjaaa
