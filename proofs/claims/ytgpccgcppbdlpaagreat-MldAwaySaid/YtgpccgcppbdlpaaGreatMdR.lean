/-
  The document's own records of layer 9: the records of a report, read one after the other.
-/
import Derived.Test.YtgpccgcppbdlpaaGreatMg27
import Derived.Test.YtgpccgcppbdlpaaGreatMg22
import Derived.Deep.CutRange
import Derived.Deep.LoopGhost
namespace Go.Proofs.YtgpccgcppbdlpaaGreat
open Go.RowKit
set_option linter.unusedVariables false
set_option linter.unusedSimpArgs false
attribute [local go_sem ↓] ld_addr st_addr bld_addr ld_rec st_rec bld_rec rcsLit_eq
attribute [local go_sem] ldr_addr str_addr ldr_rec str_rec

/-- What is left to read of a report's records. -/
def RS9 (s : List UInt8) (n i m : Nat) (acc : List RC) : Prop := (recL9 s 8 n).2 = (recL9 s i m).2 ∧ ((recL9 s i m).2 = 0 → (recL9 s 8 n).1 = acc ++ (recL9 s i m).1)
theorem RS9.start (s : List UInt8) (n : Nat) : RS9 s n 8 n [] := ⟨rfl, fun _ => by simp⟩
theorem RS9.done {s : List UInt8} {n i : Nat} {acc : List RC} (h : RS9 s n i 0 acc) : recL9 s 8 n = (acc, 0) := by
  obtain ⟨h1, h2⟩ := h
  have e : recL9 s i 0 = ([], 0) := by unfold recL9; rfl
  rw [e] at h1 h2
  exact Prod.ext (by rw [h2 rfl]; simp) h1
theorem RS9.short {s : List UInt8} {n i m : Nat} {acc : List RC} (h : RS9 s n i (m + 1) acc) (h1 : s.length < i + 20) : (recL9 s 8 n).2 = 3 := by
  rw [h.1]; unfold recL9; rw [if_pos h1]
theorem RS9.srcs {s : List UInt8} {n i m : Nat} {acc : List RC} (h : RS9 s n i (m + 1) acc) (h1 : ¬ s.length < i + 20) (h2 : srcsE9 s (i + 20) (wd s (i + 2)) ≠ 0) : (recL9 s 8 n).2 = srcsE9 s (i + 20) (wd s (i + 2)) := by
  rw [h.1]; unfold recL9; rw [if_neg h1, if_pos h2]
theorem RS9.ends {s : List UInt8} {n i m : Nat} {acc : List RC} (h : RS9 s n i (m + 1) acc) (h1 : ¬ s.length < i + 20) (h2 : srcsE9 s (i + 20) (wd s (i + 2)) = 0) (h3 : s.length < recN9 s i) : (recL9 s 8 n).2 = 3 := by
  rw [h.1]; unfold recL9; rw [if_neg h1, if_neg (by rw [h2]; simp), if_pos h3]
theorem RS9.step {s : List UInt8} {n i m : Nat} {acc : List RC} (h : RS9 s n i (m + 1) acc) (h1 : ¬ s.length < i + 20) (h2 : srcsE9 s (i + 20) (wd s (i + 2)) = 0) (h3 : ¬ s.length < recN9 s i) :
    RS9 s n (recN9 s i) m (if rcOk9 (rec9 s i) then acc ++ [rec9 s i] else acc) := by
  obtain ⟨a1, a2⟩ := h
  have e : recL9 s i (m + 1) = if (recL9 s (recN9 s i) m).2 ≠ 0 then ([], (recL9 s (recN9 s i) m).2) else (if rcOk9 (rec9 s i) then rec9 s i :: (recL9 s (recN9 s i) m).1 else (recL9 s (recN9 s i) m).1, 0) := by
    conv => lhs; unfold recL9
    rw [if_neg h1, if_neg (by rw [h2]; simp), if_neg h3]
  rw [e] at a1 a2
  by_cases hz : (recL9 s (recN9 s i) m).2 = 0
  · rw [if_neg (by rw [hz]; simp)] at a1 a2
    refine ⟨by rw [a1, hz], fun _ => ?_⟩
    rw [a2 rfl]
    split <;> simp
  · rw [if_pos hz] at a1
    exact ⟨a1, fun h => absurd h hz⟩
/-- What a report's records come to. -/
def recE9 (s : List UInt8) : Int := if 64 < wd s 6 then 6 else (recL9 s 8 (wd s 6)).2
def RecM (w : World) (s : List UInt8) (x : Ending) (w' : World) : Prop := ∃ v, x = .returned (.tuple #[v, .int .i64 (recE9 s)]) ∧ Below w.heap.size w w' ∧ ∃ q, RQ w.heap.size w' v q ∧ (recE9 s = 0 → q.map Prod.fst = (recL9 s 8 (wd s 6)).1)
/-- A record that has been boxed in the region. -/
def RG9 (w0 W : World) (m : Nat) (r : RC) (u : Value) : Prop := RcU W m 0 r u ∧ Below w0.heap.size w0 W ∧ w0.heap.size ≤ m
theorem RG9.below {w0 W W' : World} {m : Nat} {r : RC} {u : Value} (h : RG9 w0 W m r u) (hb : Below W.heap.size W W') : RG9 w0 W' m r u := ⟨h.1.below hb, bstep h.2.1 hb, h.2.2⟩
/-- An alloc, calls behind it or ahead of it, and the store. -/
theorem RG9.put {w0 W1 W2 : World} {r : RC} {u : Value} (h0 : Below w0.heap.size w0 W1) (ho : adOk r.g) (ha : Ads w0 u r.src) (h2 : Below (W1.alloc (.cells #[.int .i64 0, .bool false, .int .u8 0, .int .u8 0, .int .u8 0, .int .u8 0, .int .u8 0, .int .u8 0, .int .u8 0, .int .u8 0, .int .u8 0, .int .u8 0, .int .u8 0, .int .u8 0, .int .u8 0, .int .u8 0, .int .u8 0, .int .u8 0, .slice none 0 0] 62)).heap.size (W1.alloc (.cells #[.int .i64 0, .bool false, .int .u8 0, .int .u8 0, .int .u8 0, .int .u8 0, .int .u8 0, .int .u8 0, .int .u8 0, .int .u8 0, .int .u8 0, .int .u8 0, .int .u8 0, .int .u8 0, .int .u8 0, .int .u8 0, .int .u8 0, .int .u8 0, .slice none 0 0] 62)) W2) : RG9 w0 (aggW W2 W1.heap.size (rcC r u)) W1.heap.size r u := by
  have h1 : Below w0.heap.size w0 (W1.alloc (.cells #[.int .i64 0, .bool false, .int .u8 0, .int .u8 0, .int .u8 0, .int .u8 0, .int .u8 0, .int .u8 0, .int .u8 0, .int .u8 0, .int .u8 0, .int .u8 0, .int .u8 0, .int .u8 0, .int .u8 0, .int .u8 0, .int .u8 0, .int .u8 0, .slice none 0 0] 62)) := h0.alloc h0.size _
  have hb : Below w0.heap.size w0 (aggW W2 W1.heap.size (rcC r u)) := aggW_below (bstep h1 h2) h0.size _
  have hob := ObjAt.made W1 #[.int .i64 0, .bool false, .int .u8 0, .int .u8 0, .int .u8 0, .int .u8 0, .int .u8 0, .int .u8 0, .int .u8 0, .int .u8 0, .int .u8 0, .int .u8 0, .int .u8 0, .int .u8 0, .int .u8 0, .int .u8 0, .int .u8 0, .int .u8 0, .slice none 0 0] 62
  have hob2 := hob.below h2 hob.lt
  have hc := aggW_obj (L := (#[.int .i64 0, .bool false, .int .u8 0, .int .u8 0, .int .u8 0, .int .u8 0, .int .u8 0, .int .u8 0, .int .u8 0, .int .u8 0, .int .u8 0, .int .u8 0, .int .u8 0, .int .u8 0, .int .u8 0, .int .u8 0, .int .u8 0, .int .u8 0, .slice none 0 0] : Array Value).toList) (cs := rcC r u) (by simpa using hob2) (by rw [rcC_length ho]; rfl) (rcC_one ha.one)
  have hf : free? W2 W1.heap.size 0 19 = true := obj_free hob2 (by simp)
  exact ⟨⟨ho, hc.lt, aggW_row hf (rcC_length ho u), ha.below hb⟩, hb, h0.size⟩

theorem RG9.putd {w0 W1 W2 : World} {r : RC} {u : Value} (h0 : Below w0.heap.size w0 W1) (ho : adOk r.g) (ha : Ads w0 u r.src) (h2 : Below (W1.alloc (.cells #[.int .i64 0, .bool false, .int .u8 0, .int .u8 0, .int .u8 0, .int .u8 0, .int .u8 0, .int .u8 0, .int .u8 0, .int .u8 0, .int .u8 0, .int .u8 0, .int .u8 0, .int .u8 0, .int .u8 0, .int .u8 0, .int .u8 0, .int .u8 0, .slice none 0 0] 62)).drew.heap.size (W1.alloc (.cells #[.int .i64 0, .bool false, .int .u8 0, .int .u8 0, .int .u8 0, .int .u8 0, .int .u8 0, .int .u8 0, .int .u8 0, .int .u8 0, .int .u8 0, .int .u8 0, .int .u8 0, .int .u8 0, .int .u8 0, .int .u8 0, .int .u8 0, .int .u8 0, .slice none 0 0] 62)).drew W2) : RG9 w0 (aggW W2 W1.heap.size (rcC r u)) W1.heap.size r u :=
  RG9.put h0 ho ha (bstep (show Below (W1.alloc (.cells #[.int .i64 0, .bool false, .int .u8 0, .int .u8 0, .int .u8 0, .int .u8 0, .int .u8 0, .int .u8 0, .int .u8 0, .int .u8 0, .int .u8 0, .int .u8 0, .int .u8 0, .int .u8 0, .int .u8 0, .int .u8 0, .int .u8 0, .int .u8 0, .slice none 0 0] 62)).heap.size (W1.alloc (.cells #[.int .i64 0, .bool false, .int .u8 0, .int .u8 0, .int .u8 0, .int .u8 0, .int .u8 0, .int .u8 0, .int .u8 0, .int .u8 0, .int .u8 0, .int .u8 0, .int .u8 0, .int .u8 0, .int .u8 0, .int .u8 0, .int .u8 0, .int .u8 0, .slice none 0 0] 62)) (W1.alloc (.cells #[.int .i64 0, .bool false, .int .u8 0, .int .u8 0, .int .u8 0, .int .u8 0, .int .u8 0, .int .u8 0, .int .u8 0, .int .u8 0, .int .u8 0, .int .u8 0, .int .u8 0, .int .u8 0, .int .u8 0, .int .u8 0, .int .u8 0, .int .u8 0, .slice none 0 0] 62)).drew from ⟨rfl, rfl, rfl, Nat.le_refl _, fun _ _ => rfl⟩) h2)

set_option maxRecDepth 100000 in
set_option maxHeartbeats 4000000 in
theorem rrecords9_any (s : List UInt8) (hs : s.length ≤ 100000) (h8 : 8 ≤ s.length) (w : World) :
    Calls Tryz.prog 56 #[.string (Str s)] w fun x w' => RecM w s x w' := by
  have hsz := Str_size s
  have w6 := wd_lt s 6 (by omega)
  have HN6 : Hid (∀ W, Calls Tryz.prog 88 #[.string ((Str s).extract 6 8)] W fun x w' => x = .returned (.int .u64 (wd s 6)) ∧ w' = W) := Lib.hid fun W => rnum3 s hs 6 8 W
  have vw : IntKind.i64.wrap (wd s 6 : Int) = (wd s 6 : Int) := by simp only [IntKind.wrap_i64]; omega
  have hi6 : (8 : Int) ≤ (s.length : Int) := by omega
  by_cases h64 : 64 < wd s 6
  · have HE := Lib.hid (show recE9 s = 6 by unfold recE9; rw [if_pos h64])
    have hd : (64 : Int) < (wd s 6 : Int) := by omega
    generalize wd s 6 = n6 at *
    clear h64
    go_enter Tryz.func56, Tryz.ntmps56
    go_wp2_with (go_at_call 88; (with_reducible refine (HN6.out _).mono ?_); rintro x w5 ⟨rfl, hw5⟩; subst hw5)
    go_ret2
    exact ⟨_, by rw [HE.out]; rfl, (Below.refl _ _).alloc (Nat.le_refl _) _, [], ⟨World.ownsRow_lit w #[] 0 (Nat.le_refl _) (by unfold maxLen; omega) (by simp), fun x hx => by cases hx⟩, fun h => absurd h (by rw [HE.out]; omega)⟩
  · have hd : ¬ (64 : Int) < (wd s 6 : Int) := by omega
    obtain ⟨n, hn⟩ : ∃ n, n = wd s 6 := ⟨_, rfl⟩
    have hE : recE9 s = (recL9 s 8 n).2 := by unfold recE9; rw [if_neg h64, hn]
    have hP : ∀ (w' : World) (e : Int) (v : Value), (recL9 s 8 n).2 = e → Below w.heap.size w w' → (q : List (RC × Value)) → RQ w.heap.size w' v q → (e = 0 → q.map Prod.fst = (recL9 s 8 n).1) → RecM w s (.returned (.tuple #[v, .int .i64 e])) w' := fun w' e v h1 h2 q hq h3 =>
      ⟨v, by rw [hE, h1], h2, q, hq, fun h => by rw [hE, h1] at h; rw [← hn]; exact h3 h⟩
    have HP := Lib.hid hP
    rw [← hn] at w6 HN6 vw hd h64
    clear hP hE hn
    obtain ⟨i0, hi0, hz0, hz1, hz2⟩ := info_parts info_rec
    have HNW : Hid (∀ (i : Nat) W, Calls Tryz.prog 88 #[.string ((Str s).extract (i + 2) (i + 4))] W fun x w' => x = .returned (.int .u64 (wd s (i + 2))) ∧ w' = W) := Lib.hid fun i W => by
      have := rnum3 s hs (i + 2) (i + 4) W
      rw [show i + 4 - (i + 2) = 2 by omega] at this
      exact this
    have HSR : Hid (∀ (i k : Nat), i ≤ 100000 → k < 65536 → ∀ W, Calls Tryz.prog 91 #[.string (Str s), .int .i64 ((i : Int) + 20), .int .i64 (k : Int)] W fun x w' => SrcM W s (i + 20) k x w') := Lib.hid fun i k hi hk W => by
      have := rsources9s_any s hs (i + 20) k (by omega) (by omega) W
      rw [show ((i + 20 : Nat) : Int) = (i : Int) + 20 by omega] at this
      exact this
    have HFR : Hid (∀ (i : Nat), i + 20 ≤ s.length → ∀ W, Calls Tryz.prog 90 #[.string (Str s), .int .i64 ((i : Int) + 4)] W fun x w' => x = .returned (.agg (adC (sixL s (i + 4))).toArray) ∧ Below W.heap.size W w') := Lib.hid fun i hi W => by
      have := rsix_any s hs (i + 4) (by omega) W
      rw [show ((i + 4 : Nat) : Int) = (i : Int) + 4 by omega] at this
      exact this
    go_enter Tryz.func56, Tryz.ntmps56
    go_wp2_with (go_at_call 88; (with_reducible refine (HN6.out _).mono ?_); rintro x w5 ⟨rfl, hw5⟩; subst hw5)
    go_loopg [4, 5, 7] n (fun g v a q wr => ∃ (k i : Nat) (acc : List (RC × Value)), g = n - k ∧ k ≤ n ∧ q = .int .i64 k ∧ a = .int .i64 i ∧ i ≤ s.length ∧ acc.length ≤ k ∧ Hid (RS9 s n i (n - k) (acc.map Prod.fst)) ∧ Hid (RQ w.heap.size wr v acc) ∧ Hid (Below w.heap.size w wr))
    case atStart => exact ⟨0, 8, [], rfl, by omega, rfl, rfl, h8, Nat.le_refl _, Lib.hid (RS9.start s n), Lib.hid ⟨World.ownsRow_lit w #[] 0 (Nat.le_refl _) (by unfold maxLen; omega) (by simp), fun x hx => by cases hx⟩, Lib.hid ((Below.refl _ _).alloc (Nat.le_refl _) _)⟩
    case round =>
      obtain ⟨k, i, acc, rfl, hk, rfl, rfl, hil, hak, HRS, HRQ, HB⟩ := hrel
      by_cases hlt : k < n
      · have hk1 : (k : Int) < (n : Int) := by omega
        have hw1 : IntKind.i64.wrap ((k : Int) + 1) = (k : Int) + 1 := by simp only [IntKind.wrap_i64]; omega
        have y8 : IntKind.i64.wrap ((i : Int) + 20) = (i : Int) + 20 := by simp only [IntKind.wrap_i64]; omega
        have y2 : IntKind.i64.wrap ((i : Int) + 2) = (i : Int) + 2 := by simp only [IntKind.wrap_i64]; omega
        have y4 : IntKind.i64.wrap ((i : Int) + 4) = (i : Int) + 4 := by simp only [IntKind.wrap_i64]; omega
        have y1 : IntKind.i64.wrap ((i : Int) + 1) = (i : Int) + 1 := by simp only [IntKind.wrap_i64]; omega
        have hm : n - k = (n - (k + 1)) + 1 := by omega
        rw [hm] at HRS
        by_cases h1 : s.length < i + 20
        · have q1 : decide ((s.length : Int) < (i : Int) + 20) = true := decide_eq_true (by omega)
          have HE := Lib.hid (HRS.out.short h1)
          clear HRS hm
          go_wp2
          go_ret2
          exact HP.out _ _ _ HE.out HB.out acc HRQ.out (fun h => absurd h (by omega))
        have q1 : decide ((s.length : Int) < (i : Int) + 20) = false := decide_eq_false (by omega)
        have hwd := wd_lt s (i + 2) (by omega)
        have e2 : (i : Int) + 2 ≤ (i : Int) + 4 := by omega
        have e3 : (i : Int) + 4 ≤ (s.length : Int) := by omega
        have e4 : (0 : Int) ≤ (i : Int) + 2 := by omega
        have t2 : ((i : Int) + 2).toNat = i + 2 := by omega
        have t4 : ((i : Int) + 4).toNat = i + 4 := by omega
        have vwi : IntKind.i64.wrap (wd s (i + 2) : Int) = (wd s (i + 2) : Int) := by simp only [IntKind.wrap_i64]; omega
        have HN2 := Lib.hid (HNW.out i)
        have HS2 := Lib.hid (HSR.out i (wd s (i + 2)) (by omega) hwd)
        have HSE := Lib.hid (fun h => HRS.out.srcs h1 h)
        have HEN := Lib.hid (fun h h' => HRS.out.ends h1 h h')
        have HST := Lib.hid (fun h h' => HRS.out.step h1 h h')
        have HF4 := Lib.hid (HFR.out i (by omega))
        clear hm HRS HNW HSR HFR HN6
        go_upto_region 11 with (first
          | (go_at_call 88; (with_reducible refine (HN2.out _).mono ?_); rintro x w5 ⟨rfl, hw5⟩; subst hw5)
          | (go_at_call 91; (with_reducible refine (HS2.out _).mono ?_); rintro x w5 ⟨v2, SL2, rfl, hb5, ha5, hs5⟩; have HQ1 := Lib.hid (HRQ.out.below hb5); have HB1 := Lib.hid (bstep HB.out hb5); have HAD := Lib.hid (show srcsE9 s (i + 20) (wd s (i + 2)) = 0 → Ads w5 v2 (srcsL9 s (i + 20) (wd s (i + 2))) ∧ AdT w5 v2 from fun h => by rw [← hs5 h]; exact ha5); clear hb5 ha5 hs5))
        clear HRQ HB HN2 HS2
        have HRN := Lib.hid (show ((recN9 s i : Nat) : Int) = (i : Int) + 20 + 16 * (wd s (i + 2) : Int) + 4 * (by8 s (i + 1) : Int) by unfold recN9; omega)
        have hsl := srcsL9_length s (i + 20) (wd s (i + 2))
        have HR1 : Hid (rec9 s i = ⟨(by8 s i : Nat), sixL s (i + 4), srcsL9 s (i + 20) (wd s (i + 2))⟩) := Lib.hid rfl
        generalize srcsL9 s (i + 20) (wd s (i + 2)) = SL at *
        have hEl : srcsE9 s (i + 20) (wd s (i + 2)) = 0 → wd s (i + 2) ≤ 64 := fun h => by
          unfold srcsE9 at h
          refine Decidable.byContradiction fun hc => ?_
          rw [if_pos (by omega)] at h
          exact absurd h (by omega)
        generalize srcsE9 s (i + 20) (wd s (i + 2)) = E at *
        generalize wd s (i + 2) = kk at *
        by_cases he : E = 0
        · subst he
          have HE0 := hEl rfl
          have HAD2 := HAD.out rfl
          obtain ⟨pp, cc, rfl, hlu, hlm⟩ := HAD2.1.len
          rw [hsl] at *
          have HA := Lib.hid HAD2
          have HEN2 := Lib.hid (HEN.out rfl)
          have HST2 := Lib.hid (HST.out rfl)
          clear HAD HAD2 hEl HEN HST HSE
          have b1 := by8_lt s (i + 1)
          have b0 := by8_lt s i
          have i1 : (i : Int) + 1 < (s.length : Int) := by omega
          have i0' : (i : Int) < (s.length : Int) := by omega
          have t1 : ((i : Int) + 1).toNat = i + 1 := by omega
          have e1 : ∀ h, ((Str s)[i + 1]'h).toNat = by8 s (i + 1) := fun h => Str_at s (i + 1) h
          have e0 : ∀ h, ((Str s)[i]'h).toNat = by8 s i := fun h => Str_at s i h
          have z1 : IntKind.i64.wrap (by8 s (i + 1) : Int) = (by8 s (i + 1) : Int) := by simp only [IntKind.wrap_i64]; omega
          have z0 : IntKind.i64.wrap (by8 s i : Int) = (by8 s i : Int) := by simp only [IntKind.wrap_i64]; omega
          generalize by8 s (i + 1) = c1 at *
          generalize by8 s i = c0 at *
          have z2 : IntKind.i64.wrap (4 * (c1 : Int)) = 4 * (c1 : Int) := by simp only [IntKind.wrap_i64]; omega
          have z3 : IntKind.i64.wrap (16 * (kk : Int)) = 16 * (kk : Int) := by simp only [IntKind.wrap_i64]; omega
          have z4 : IntKind.i64.wrap ((i : Int) + 20 + 16 * (kk : Int)) = (i : Int) + 20 + 16 * (kk : Int) := by simp only [IntKind.wrap_i64]; omega
          have z5 : IntKind.i64.wrap ((i : Int) + 20 + 16 * (kk : Int) + 4 * (c1 : Int)) = (i : Int) + 20 + 16 * (kk : Int) + 4 * (c1 : Int) := by simp only [IntKind.wrap_i64]; omega
          by_cases h3 : s.length < recN9 s i
          · have HE := Lib.hid (HEN2.out h3)
            have q3 : decide ((s.length : Int) < (i : Int) + 20 + 16 * (kk : Int) + 4 * (c1 : Int)) = true := decide_eq_true (by have := HRN.out; omega)
            clear h3 HST2 HEN2
            go_wp2
            go_ret2
            exact HP.out _ _ _ HE.out HB1.out acc HQ1.out (fun h => absurd h (by omega))
          · have HST3 := Lib.hid (HST2.out h3)
            have q3 : decide ((s.length : Int) < (i : Int) + 20 + 16 * (kk : Int) + 4 * (c1 : Int)) = false := decide_eq_false (by have := HRN.out; omega)
            have hiN : recN9 s i ≤ s.length := by omega
            clear h3 HST2 HEN2
            have HO := Lib.hid (sixL_ok s (i + 4))
            generalize sixL s (i + 4) = G at *
            have hbr := bldr_rec (c0 : Nat) G HO.out SL pp kk cc
            have hfok := fok_rec (r := ⟨(c0 : Nat), G, SL⟩) (u := .slice pp kk cc) HO.out rfl
            have hfm : ∀ W : World, free? (W.alloc (.cells #[.int .i64 0, .bool false, .int .u8 0, .int .u8 0, .int .u8 0, .int .u8 0, .int .u8 0, .int .u8 0, .int .u8 0, .int .u8 0, .int .u8 0, .int .u8 0, .int .u8 0, .int .u8 0, .int .u8 0, .int .u8 0, .int .u8 0, .int .u8 0, .slice none 0 0] 62)) W.heap.size 0 19 = true := fun W => free_made W _ _ 19 (by simp)
            have hfy : ∀ W w' : World, Below (W.alloc (.cells #[.int .i64 0, .bool false, .int .u8 0, .int .u8 0, .int .u8 0, .int .u8 0, .int .u8 0, .int .u8 0, .int .u8 0, .int .u8 0, .int .u8 0, .int .u8 0, .int .u8 0, .int .u8 0, .int .u8 0, .int .u8 0, .int .u8 0, .int .u8 0, .slice none 0 0] 62)).heap.size (W.alloc (.cells #[.int .i64 0, .bool false, .int .u8 0, .int .u8 0, .int .u8 0, .int .u8 0, .int .u8 0, .int .u8 0, .int .u8 0, .int .u8 0, .int .u8 0, .int .u8 0, .int .u8 0, .int .u8 0, .int .u8 0, .int .u8 0, .int .u8 0, .int .u8 0, .slice none 0 0] 62)) w' → free? w' W.heap.size 0 19 = true := fun W w' hb => free_below (hfm W) (by simp) hb
            have hfz : ∀ W w' : World, Below (W.alloc (.cells #[.int .i64 0, .bool false, .int .u8 0, .int .u8 0, .int .u8 0, .int .u8 0, .int .u8 0, .int .u8 0, .int .u8 0, .int .u8 0, .int .u8 0, .int .u8 0, .int .u8 0, .int .u8 0, .int .u8 0, .int .u8 0, .int .u8 0, .int .u8 0, .slice none 0 0] 62)).drew.heap.size (W.alloc (.cells #[.int .i64 0, .bool false, .int .u8 0, .int .u8 0, .int .u8 0, .int .u8 0, .int .u8 0, .int .u8 0, .int .u8 0, .int .u8 0, .int .u8 0, .int .u8 0, .int .u8 0, .int .u8 0, .int .u8 0, .int .u8 0, .int .u8 0, .int .u8 0, .slice none 0 0] 62)).drew w' → free? w' W.heap.size 0 19 = true := fun W w' hb => hfy W w' (bstep (show Below (W.alloc (.cells #[.int .i64 0, .bool false, .int .u8 0, .int .u8 0, .int .u8 0, .int .u8 0, .int .u8 0, .int .u8 0, .int .u8 0, .int .u8 0, .int .u8 0, .int .u8 0, .int .u8 0, .int .u8 0, .int .u8 0, .int .u8 0, .int .u8 0, .int .u8 0, .slice none 0 0] 62)).heap.size (W.alloc (.cells #[.int .i64 0, .bool false, .int .u8 0, .int .u8 0, .int .u8 0, .int .u8 0, .int .u8 0, .int .u8 0, .int .u8 0, .int .u8 0, .int .u8 0, .int .u8 0, .int .u8 0, .int .u8 0, .int .u8 0, .int .u8 0, .int .u8 0, .int .u8 0, .slice none 0 0] 62)) (W.alloc (.cells #[.int .i64 0, .bool false, .int .u8 0, .int .u8 0, .int .u8 0, .int .u8 0, .int .u8 0, .int .u8 0, .int .u8 0, .int .u8 0, .int .u8 0, .int .u8 0, .int .u8 0, .int .u8 0, .int .u8 0, .int .u8 0, .int .u8 0, .int .u8 0, .slice none 0 0] 62)).drew from ⟨rfl, rfl, rfl, Nat.le_refl _, fun _ _ => rfl⟩) hb)
            generalize hRC : rcC ⟨(c0 : Nat), G, SL⟩ (.slice pp kk cc) = CS at *
            have HCS := Lib.hid hRC
            clear hRC
            go_upto_region 16 with (fail)
            go_cut [12] from 69 to 96 (fun q wr => ∃ m : Nat, q = .pointer (some ⟨m, 0, none⟩) ∧ RG9 w5 wr m ⟨(c0 : Nat), G, SL⟩ (.slice pp kk cc))
            case first =>
              refine wp_region_held_drew (S := fun _ => True) (by kernel_rfl) (trivial) (fun hHeld => ?_)
              refine wpAnyH_take (i := 0) (oi := { dst := some 69, op := _, type := _, pos := _, after := _, guard := _ }) (v := ?v201) rfl (by kernel_rfl) (by kernel_rfl) (by kernel_rfl) (fun _ _ _ h => h) (Or.inl ⟨by rfl, ?y201⟩) (by assumption) ?r201
              case y201 => (intro w hSw; go_simp; try with_reducible rfl)
              try simp only [Act.put, List.setIfInBounds_toArray, List.set_cons_zero, List.set_cons_succ]
              refine wpAnyH_take (i := 1) (oi := { dst := some 70, op := _, type := _, pos := _, after := _, guard := _ }) (v := ?v202) rfl (by kernel_rfl) (by kernel_rfl) (by kernel_rfl) (fun _ _ _ h => h) (Or.inl ⟨by rfl, ?y202⟩) (by assumption) ?r202
              case y202 => (intro w hSw; go_simp; try with_reducible rfl)
              try simp only [Act.put, List.setIfInBounds_toArray, List.set_cons_zero, List.set_cons_succ]
              refine wpAnyH_take (i := 2) (oi := { dst := some 71, op := _, type := _, pos := _, after := _, guard := _ }) (v := ?v203) rfl (by kernel_rfl) (by kernel_rfl) (by kernel_rfl) (fun _ _ _ h => h) (Or.inl ⟨by rfl, ?y203⟩) (by assumption) ?r203
              case y203 => (intro w hSw; go_simp; try with_reducible rfl)
              try simp only [Act.put, List.setIfInBounds_toArray, List.set_cons_zero, List.set_cons_succ]
              refine wpAnyH_take (i := 3) (oi := { dst := some 72, op := _, type := _, pos := _, after := _, guard := _ }) (v := ?v204) rfl (by kernel_rfl) (by kernel_rfl) (by kernel_rfl) (fun _ _ _ h => h) (Or.inl ⟨by rfl, ?y204⟩) (by assumption) ?r204
              case y204 => (intro w hSw; go_simp; try with_reducible rfl)
              try simp only [Act.put, List.setIfInBounds_toArray, List.set_cons_zero, List.set_cons_succ]
              refine wpAnyH_take (i := 4) (oi := { dst := some 73, op := _, type := _, pos := _, after := _, guard := _ }) (v := ?v205) rfl (by kernel_rfl) (by kernel_rfl) (by kernel_rfl) (fun _ _ _ h => h) (Or.inl ⟨by rfl, ?y205⟩) (by assumption) ?r205
              case y205 => (intro w hSw; go_simp; try with_reducible rfl)
              try simp only [Act.put, List.setIfInBounds_toArray, List.set_cons_zero, List.set_cons_succ]
              refine wpAnyH_take (i := 5) (oi := { dst := some 74, op := _, type := _, pos := _, after := _, guard := _ }) (v := ?v206) rfl (by kernel_rfl) (by kernel_rfl) (by kernel_rfl) (fun _ _ _ h => h) (Or.inl ⟨by rfl, ?y206⟩) (by assumption) ?r206
              case y206 => (intro w hSw; go_simp; try with_reducible rfl)
              try simp only [Act.put, List.setIfInBounds_toArray, List.set_cons_zero, List.set_cons_succ]
              refine wpAnyH_take (i := 6) (oi := { dst := some 75, op := _, type := _, pos := _, after := _, guard := _ }) (v := ?v207) rfl (by kernel_rfl) (by kernel_rfl) (by kernel_rfl) (fun _ _ _ h => h) (Or.inl ⟨by rfl, ?y207⟩) (by assumption) ?r207
              case y207 => (intro w hSw; go_simp; try with_reducible rfl)
              try simp only [Act.put, List.setIfInBounds_toArray, List.set_cons_zero, List.set_cons_succ]
              refine wpAnyH_take (i := 8) (oi := { dst := some 77, op := _, type := _, pos := _, after := _, guard := _ }) (v := ?v208) rfl (by kernel_rfl) (by kernel_rfl) (by kernel_rfl) (fun _ _ _ h => h) (Or.inl ⟨by rfl, ?y208⟩) (by assumption) ?r208
              case y208 => (intro w hSw; go_simp; try with_reducible rfl)
              try simp only [Act.put, List.setIfInBounds_toArray, List.set_cons_zero, List.set_cons_succ]
              refine wpAnyH_ready (rs := [7, 10]) (by kernel_rfl) (by simp) (AllReadyH.cons (o := _) rfl (fun K hK => ?_) (AllReadyH.cons (o := _) rfl (fun K hK => ?_) AllReadyH.nil))
              · go_simp
                (go_at_call 90; (with_reducible refine (HF4.out _).mono ?_); rintro x w6 ⟨rfl, hb6⟩; have H5 := Lib.hid hb6; clear hb6)
                try go_wp2_with fail
                refine hK.out _ _ (trivial) (fun hHeld => ?_)
                clear hK K
                try simp only [Act.put, List.setIfInBounds_toArray, List.set_cons_zero, List.set_cons_succ]
                refine wpAnyH_take (i := 9) (oi := { dst := some 78, op := _, type := _, pos := _, after := _, guard := _ }) (v := ?v209) rfl (by kernel_rfl) (by kernel_rfl) (by kernel_rfl) (fun _ _ _ h => h) (Or.inl ⟨by rfl, ?y209⟩) (by assumption) ?r209
                case y209 => (intro w hSw; go_simp; try with_reducible rfl)
                try simp only [Act.put, List.setIfInBounds_toArray, List.set_cons_zero, List.set_cons_succ]
                refine wpAnyH_ready (rs := [10]) (by kernel_rfl) (by simp) (AllReadyH.cons (o := _) rfl (fun K hK => ?_) AllReadyH.nil)
                go_simp
                refine hK.out _ _ (trivial) (fun hHeld => ?_)
                clear hK K
                try simp only [Act.put, List.setIfInBounds_toArray, List.set_cons_zero, List.set_cons_succ]
                refine wpAnyH_ready (rs := [11]) (by kernel_rfl) (by simp) (AllReadyH.cons (o := _) rfl (fun K hK => ?_) AllReadyH.nil)
                go_simp
                refine hK.out _ _ (trivial) (fun hHeld => ?_)
                clear hK K
                try simp only [Act.put, List.setIfInBounds_toArray, List.set_cons_zero, List.set_cons_succ]
                refine wpAnyH_done (by kernel_rfl) ?_ _
                go_wp2
                go_meet
                case rel => exact ⟨_, rfl, by rw [← HCS.out]; first | exact RG9.put H5.out HO.out HA.out.1 (Below.refl _ _) | exact RG9.put (bstep (bdrewN (Below.refl _ _) 1) H5.out) HO.out HA.out.1 (Below.refl _ _) | exact RG9.put (Below.refl _ _) HO.out HA.out.1 H5.out | exact RG9.put (bdrewN (Below.refl _ _) 1) HO.out HA.out.1 H5.out | exact RG9.putd (Below.refl _ _) HO.out HA.out.1 H5.out | exact RG9.putd (bdrewN (Below.refl _ _) 1) HO.out HA.out.1 H5.out⟩
              · go_simp
                refine hK.out _ _ (trivial) (fun hHeld => ?_)
                clear hK K
                try simp only [Act.put, List.setIfInBounds_toArray, List.set_cons_zero, List.set_cons_succ]
                refine wpAnyH_ready (rs := [7]) (by kernel_rfl) (by simp) (AllReadyH.cons (o := _) rfl (fun K hK => ?_) AllReadyH.nil)
                go_simp
                (go_at_call 90; (with_reducible refine (HF4.out _).mono ?_); rintro x w6 ⟨rfl, hb6⟩; have H5 := Lib.hid hb6; clear hb6; first | (have hfx := hfy _ _ H5.out) | (have hfx := hfz _ _ H5.out))
                try go_wp2_with fail
                refine hK.out _ _ (trivial) (fun hHeld => ?_)
                clear hK K
                try simp only [Act.put, List.setIfInBounds_toArray, List.set_cons_zero, List.set_cons_succ]
                refine wpAnyH_take (i := 9) (oi := { dst := some 78, op := _, type := _, pos := _, after := _, guard := _ }) (v := ?v210) rfl (by kernel_rfl) (by kernel_rfl) (by kernel_rfl) (fun _ _ _ h => h) (Or.inl ⟨by rfl, ?y210⟩) (by assumption) ?r210
                case y210 => (intro w hSw; go_simp; try with_reducible rfl)
                try simp only [Act.put, List.setIfInBounds_toArray, List.set_cons_zero, List.set_cons_succ]
                refine wpAnyH_ready (rs := [11]) (by kernel_rfl) (by simp) (AllReadyH.cons (o := _) rfl (fun K hK => ?_) AllReadyH.nil)
                go_simp
                refine hK.out _ _ (trivial) (fun hHeld => ?_)
                clear hK K
                try simp only [Act.put, List.setIfInBounds_toArray, List.set_cons_zero, List.set_cons_succ]
                refine wpAnyH_done (by kernel_rfl) ?_ _
                go_wp2
                go_meet
                case rel => exact ⟨_, rfl, by rw [← HCS.out]; first | exact RG9.put H5.out HO.out HA.out.1 (Below.refl _ _) | exact RG9.put (bstep (bdrewN (Below.refl _ _) 1) H5.out) HO.out HA.out.1 (Below.refl _ _) | exact RG9.put (Below.refl _ _) HO.out HA.out.1 H5.out | exact RG9.put (bdrewN (Below.refl _ _) 1) HO.out HA.out.1 H5.out | exact RG9.putd (Below.refl _ _) HO.out HA.out.1 H5.out | exact RG9.putd (bdrewN (Below.refl _ _) 1) HO.out HA.out.1 H5.out⟩
            case rest =>
              obtain ⟨m, rfl, hg⟩ := hcut
              have H2 := Lib.hid hg
              clear hg hbr hfok hfm hfy hfz HF4 e0 e1 t1 i1 i0' q1 q3 y8 y2 y4 y1 z1 z2 z3 z4 z5 e2 e3 e4 t2 t4 vwi b1
              have HQ2 := Lib.hid (HQ1.out.below H2.out.2.1)
              have HB2 := Lib.hid (bstep HB1.out H2.out.2.1)
              obtain ⟨d0, d1, d2⟩ := H2.out.1.cells
              simp only at d0 d1 d2
              have r19 := H2.out.1.2.2.1
              rw [HCS.out] at r19
              have HG := Lib.hid (fun W => rgroup9_any G HO.out W)
              have HKC : Hid (∀ W, RG9 w5 W m ⟨(c0 : Nat), G, SL⟩ (.slice pp kk cc) → row? W m 0 19 = some CS) := Lib.hid fun W h => by rw [← HCS.out]; exact h.1.2.2.1
              have HOK : Hid (rcOk9 (rec9 s i) = (decide (1 ≤ c0 ∧ c0 ≤ 6) && grp9 G)) := Lib.hid (by
                rw [HR1.out]; unfold rcOk9
                congr 1
                rw [Bool.eq_iff_iff]; simp; omega)
              have HNO : Hid (rcOk9 (rec9 s i) = false → RS9 s n (recN9 s i) (n - (k + 1)) (acc.map Prod.fst)) := Lib.hid fun h => by
                have := HST3.out
                rw [if_neg (by rw [h]; simp)] at this
                exact this
              have HYES : Hid (rcOk9 (rec9 s i) = true → RS9 s n (recN9 s i) (n - (k + 1)) ((acc ++ [((⟨(c0 : Nat), G, SL⟩ : RC), Value.slice pp kk cc)]).map Prod.fst)) := Lib.hid fun h => by
                have := HST3.out
                rw [if_pos h, HR1.out] at this
                simpa using this
              clear HST3 r19
              have hkn : k + 1 ≤ n := by omega
              have hak2 : acc.length ≤ k + 1 := by omega
              by_cases g0 : (0 : Int) < (c0 : Int)
              · have tg : decide ((0 : Int) < (c0 : Int)) = true := decide_eq_true g0
                by_cases g7 : (c0 : Int) < 7
                · have tg7 : decide ((c0 : Int) < 7) = true := decide_eq_true g7
                  rw [decide_eq_true (show 1 ≤ c0 ∧ c0 ≤ 6 by omega), Bool.true_and] at HOK
                  cases hgg : grp9 G with
                  | false =>
                    rw [hgg] at HG HOK
                    have HRS2 := Lib.hid (HNO.out HOK.out)
                    clear HNO HYES HOK hgg HCS
                    go_wp2_with (go_at_call 34; (with_reducible refine (HG.out _).mono ?_); rintro x w7 ⟨rfl, hb7⟩; have HQ3 := Lib.hid (HQ2.out.below hb7); have HB3 := Lib.hid (bstep HB2.out hb7); clear hb7)
                    go_roundg (n - (k + 1))
                    case rel => exact ⟨k + 1, recN9 s i, acc, rfl, hkn, by go_num, by rw [HRN.out], hiN, hak2, HRS2, HQ3, HB3⟩
                    case measure => omega
                  | true =>
                    rw [hgg] at HG HOK
                    have HRS2 := Lib.hid (HYES.out HOK.out)
                    have hlit := rcsLit_run ⟨(c0 : Nat), G, SL⟩ HO.out pp kk cc
                    have HL19 := Lib.hid (rcC_length (r := ⟨(c0 : Nat), G, SL⟩) HO.out (.slice pp kk cc))
                    have HC1 : Hid (∀ u ∈ rcC ⟨(c0 : Nat), G, SL⟩ (.slice pp kk cc), u.oneCell' = true) := Lib.hid (rcC_one rfl)
                    rw [HCS.out] at hlit HL19 HC1
                    have HA2 := Lib.hid (show ∀ W, Below wc.heap.size wc W → adOk G ∧ Ads W (.slice pp kk cc) SL ∧ AdT W (.slice pp kk cc) from fun W hb => ⟨HO.out, (HA.out.1.below H2.out.2.1).below hb, (HA.out.2.below H2.out.2.1).below hb⟩)
                    clear HNO HYES HOK hgg
                    go_wp2_with (first
                      | (go_at_call 34; (with_reducible refine (HG.out _).mono ?_); rintro x w7 ⟨rfl, hb7⟩; have HQ3 := Lib.hid (HQ2.out.below hb7); have HB3 := Lib.hid (bstep HB2.out hb7); have r19 := HKC.out _ (H2.out.below hb7); have HA3 := Lib.hid (HA2.out _ hb7); clear hb7 d0 d1 d2; have hown := HQ3.out.1; have hz := HB3.out.size; have hl19 := HL19.out; have h1c := HC1.out)
                      | (at_builtin; refine wpList_append_own _ rfl _ _ 26 rfl w.heap.size 62 i0 (.agg #[.int .i64 0, .bool false, .int .u8 0, .int .u8 0, .int .u8 0, .int .u8 0, .int .u8 0, .int .u8 0, .int .u8 0, .int .u8 0, .int .u8 0, .int .u8 0, .int .u8 0, .int .u8 0, .int .u8 0, .int .u8 0, .int .u8 0, .int .u8 0, .slice none 0 0]) 19 56 Tryz.underlying26 hi0 hz0 hz1 hz2 rfl (by decide) _ _ _ rfl (hown.alloc _) ⟨w7.heap.size, 0, none⟩ 1 1 CS rfl hl19 (World.news_of_block (heap_alloc_new w7 _)) h1c (by unfold maxLen; omega) (by omega) (by simp; omega) ?_; intro v' w8 hown' hgrow hnil; have Hown := Lib.hid hown'; have Hgrow := Lib.hid hgrow; clear hown' hgrow hnil hown hz hl19 h1c r19))
                    have hba : Below w7.heap.size w7 (w7.alloc (.cells CS.toArray 62)) := (Below.refl _ _).alloc (Nat.le_refl _) _
                    have HQ4 := Lib.hid (RQ.snoc (HQ3.out.below hba) ⟨HA3.out.1, HA3.out.2.1.below hba, HA3.out.2.2.below hba⟩ (by rw [HCS.out]; exact Hown.out) Hgrow.out)
                    have hv := HQ3.out.1.2
                    have HB4 : Hid (Below w.heap.size w w8) := Lib.hid ((bstep HB3.out hba).grown Hgrow.out (by have := Nat.le_trans HB3.out.size hba.size; exact this) (fun q hq => by
                      rcases hv with ⟨e1, _⟩ | ⟨g, cap, cur, e1, e2, _⟩
                      · subst e1; cases hq
                      · subst e1; cases hq; exact e2))
                    clear hv hba
                    have hak3 : (acc ++ [((⟨(c0 : Nat), G, SL⟩ : RC), Value.slice pp kk cc)]).length ≤ k + 1 := by simp; omega
                    go_roundg (n - (k + 1))
                    case rel => exact ⟨k + 1, recN9 s i, acc ++ [((⟨(c0 : Nat), G, SL⟩ : RC), Value.slice pp kk cc)], rfl, hkn, by go_num, by rw [HRN.out], hiN, hak3, HRS2, HQ4, HB4⟩
                    case measure => omega
                · have tg7 : decide ((c0 : Int) < 7) = false := decide_eq_false g7
                  have HRS2 := Lib.hid (HNO.out (by rw [HOK.out, decide_eq_false (show ¬ (1 ≤ c0 ∧ c0 ≤ 6) by omega)]; rfl))
                  clear HNO HYES HOK HCS
                  go_wp2
                  go_roundg (n - (k + 1))
                  case rel => exact ⟨k + 1, recN9 s i, acc, rfl, hkn, by go_num, by rw [HRN.out], hiN, hak2, HRS2, HQ2, HB2⟩
                  case measure => omega
              · have tg : decide ((0 : Int) < (c0 : Int)) = false := decide_eq_false g0
                have HRS2 := Lib.hid (HNO.out (by rw [HOK.out, decide_eq_false (show ¬ (1 ≤ c0 ∧ c0 ≤ 6) by omega)]; rfl))
                clear HNO HYES HOK HCS
                go_wp2
                go_roundg (n - (k + 1))
                case rel => exact ⟨k + 1, recN9 s i, acc, rfl, hkn, by go_num, by rw [HRN.out], hiN, hak2, HRS2, HQ2, HB2⟩
                case measure => omega
        · have q2 : (E != 0) = true := by simp [he]
          have HE := Lib.hid (HSE.out he)
          have HE2 := Lib.hid he
          clear HST HEN HSE hEl HAD he
          go_wp2
          go_ret2
          exact HP.out _ _ _ HE.out HB1.out acc HQ1.out (fun h => absurd h HE2.out)
      · have hk1 : ¬ (k : Int) < (n : Int) := by omega
        have hkn : n - k = 0 := by omega
        rw [hkn] at HRS
        clear HSR HFR HNW
        go_wp2
        go_ret2
        exact HP.out _ _ _ (by rw [HRS.out.done]) HB.out acc HRQ.out (fun _ => by rw [HRS.out.done])
end Go.Proofs.YtgpccgcppbdlpaaGreat
