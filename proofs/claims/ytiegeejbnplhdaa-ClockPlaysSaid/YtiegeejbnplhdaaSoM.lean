/-
  Two texts of the library's sort that hold nothing against each other.
-/
import Derived.Test.YtiegeejbnplhdaaSoB
import Derived.Sort.Walk7
import Derived.Shelf.SlSortCmp.Xorshift
import Derived.Test.YtiegeejbnplhdaaLay
namespace Go.Proofs.Ytiegeejbnplhdaa
open Go.RowKit
set_option linter.unusedVariables false
set_option linter.unusedSimpArgs false

theorem rev_yes {d : Array (List UInt8)} {i j : Nat} (h : i < j) : Sort.reverseLoop i j d = Sort.reverseLoop (i + 1) (j - 1) (Sort.swp d i j) := by
  conv => lhs; unfold Sort.reverseLoop
  rw [if_pos h]
set_option maxRecDepth 1000000 in
set_option maxHeartbeats 4000000 in
theorem rev_any (E : SE) (ok : E.Ok) (a b : Nat) (xa xb : Int) (ea : xa = a) (eb : xb = b) (fv : Value) (d : Array (List UInt8)) (w : World) (S0 : St E w d) (hab : a < b) (hb : b ≤ E.n) :
    Calls Try.prog 44 #[.slice (some ⟨E.g, 0, none⟩) E.n E.cap, .int .i64 xa, .int .i64 xb, fv] w fun x w' => x = .returned (.tuple #[]) ∧ St E w' (Sort.reverseRange d a b) := by
  have HNM := Lib.hid ok.nm
  have ST := Lib.hid S0
  have HXA := Lib.hid ea
  have HAB := Lib.hid hab
  have HBN := Lib.hid hb
  obtain ⟨R, HRE⟩ : ∃ R, Hid (Sort.reverseLoop a (b - 1) d = R) := ⟨_, Lib.hid rfl⟩
  change Calls Try.prog _ _ w fun x w' => x = .returned (.tuple #[]) ∧ St E w' (Sort.reverseLoop a (b - 1) d)
  rw [HRE.out]
  obtain ⟨xb1, HXB1, wb1⟩ := wrapL (xb - 1) ((b - 1 : Nat) : Int) (by rw [eb]; omega) (by omega) (by have := HNM.out; have := HBN.out; omega)
  clear ok S0 ea eb hab hb
  go_enter Try.func44, Try.ntmps44
  go_wp2_with fail
  go_loopw [8, 9] (fun vi vj wr => ∃ (xi xj : Int) (i j : Nat) (dk : Array (List UInt8)), vi = .int .i64 xi ∧ vj = .int .i64 xj ∧ Hid (xi = (i : Int)) ∧ Hid (xj = (j : Int)) ∧ Hid (j < b ∧ i ≤ b) ∧ Hid (St E wr dk) ∧ Hid (Sort.reverseLoop i j dk = R)) (fun vi vj _ => (intOf vj - intOf vi).toNat)
  case atStart => exact ⟨xa, xb1, a, b - 1, d, rfl, rfl, HXA, HXB1, Lib.hid (by have := HAB.out; omega), ST, HRE⟩
  case round =>
    clear ST HRE
    obtain ⟨xi, xj, i, j, dk, rfl, rfl, HXI, HXJ, HJB, ST1, HR⟩ := hrel
    by_cases hij : i < j
    · have hd : decide (xi < xj) = true := decide_eq_true (by rw [HXI.out, HXJ.out]; omega)
      have hd' : xi < xj := by rw [HXI.out, HXJ.out]; omega
      have HNX : Hid (Sort.reverseLoop (i + 1) (j - 1) (Sort.swp dk i j) = R) := Lib.hid ((rev_yes hij).symm.trans HR.out)
      obtain ⟨xi1, HXI1, wi⟩ := wrapL (xi + 1) ((i + 1 : Nat) : Int) (by rw [HXI.out]; omega) (by omega) (by have := HNM.out; have := HBN.out; have := HJB.out; omega)
      obtain ⟨xj1, HXJ1, wj⟩ := wrapL (xj - 1) ((j - 1 : Nat) : Int) (by rw [HXJ.out]; omega) (by omega) (by have := HNM.out; have := HBN.out; have := HJB.out; omega)
      obtain ⟨ki, HKki, HBki, tki, pki, bki⟩ := idxK (x := xi) (i := i) (n := E.n) (HXI.out) (by have := HJB.out; have := HBN.out; omega)
      obtain ⟨kj, HKkj, HBkj, tkj, pkj, bkj⟩ := idxK (x := xj) (i := j) (n := E.n) (HXJ.out) (by have := HJB.out; have := HBN.out; omega)
      rw [← HKki.out, ← HKkj.out] at HNX
      obtain ⟨X, Y, u, l1, l2, f1, f2, l3, ST2⟩ := ST1.out.xch HBki.out HBkj.out
      go_wp2_with fail
      go_region
      clear l1 l2 f1 f2 l3
      generalize World.drew _ = w3 at ST2 ⊢
      go_wp2
      go_roundw
      case rel => exact ⟨xi1, xj1, i + 1, j - 1, _, rfl, rfl, HXI1, HXJ1, Lib.hid (by have := HJB.out; omega), ST2, Lib.hid (by have := HNX.out; rw [HKki.out, HKkj.out] at *; exact this)⟩
      case measure => have := HXI.out; have := HXJ.out; have := HXI1.out; have := HXJ1.out; simp only [intOf]; omega
    · have hd : decide (xi < xj) = false := decide_eq_false (by rw [HXI.out, HXJ.out]; omega)
      have hd' : ¬ xi < xj := by rw [HXI.out, HXJ.out]; omega
      have HR2 : Hid (dk = R) := Lib.hid (by rw [← HR.out]; unfold Sort.reverseLoop; rw [if_neg hij])
      go_wp2
      go_end0
      exact ⟨rfl, by rw [← HR2.out]; exact ST1.out⟩

/-- .. with the state of the random numbers in block c. -/
structure StX (E : SE) (w : World) (d : Array (List UInt8)) (c X : Nat) : Prop where
  st : St E w d
  o : ObjAt w c #[.int .u64 (X : Int)] 87
  fr : E.w0.heap.size ≤ c
  gl : E.g < E.w0.heap.size
variable {E : SE} {w : World} {d : Array (List UInt8)} {c X : Nat}
theorem St.setOther (h : St E w d) (hc : E.w0.heap.size ≤ c) (hg : E.g < E.w0.heap.size) (v : Value) : St E (w.setCell ⟨c, 0, none⟩ v) d := by
  have hne : E.g ≠ c := by omega
  obtain ⟨cur, h1, h2, h3⟩ := h.row
  refine ⟨?_, ⟨cur, (heap_setCell_other w ⟨c, 0, none⟩ E.g _ hne).trans h1, h2, h3⟩, h.sz, h.kl⟩
  have g := h.gr
  exact ⟨g.os, g.tape, g.output, Nat.le_trans g.size (by simp), fun k hk hn => (heap_setCell_other w ⟨c, 0, none⟩ k _ (by show k ≠ c; omega)).trans (g.block k hk hn)⟩
theorem StX.next (h : StX E w d c X) (Y : Nat) : StX E ((w.setCell ⟨c, 0, none⟩ (.int .u64 (Y : Int))).drewN 3) d c Y :=
  ⟨(h.st.setOther h.fr h.gl _).below (bdrewN (Below.refl _ _) 3), (h.o.set 0 _).drewN 3, h.fr, h.gl⟩
theorem StX.made (h : St E w d) (ok : E.Ok) (L : Nat) : StX E (w.alloc (.cells #[.int .u64 (L : Int)] 87)) d w.heap.size L := by
  obtain ⟨cur, h1, _⟩ := ok.row
  have hg := (Array.getElem?_eq_some_iff.1 h1).1
  exact ⟨h.below (bbV _ _), ObjAt.made _ _ _, h.gr.size, hg⟩
theorem StX.xch (h : StX E w d c X) {k1 k2 : Nat} (h1 : k1 < E.n) (h2 : k2 < E.n) : ∃ (A B : List UInt8) (u : Value), w.cell? ⟨E.g, k1, none⟩ = some (.string (Str A)) ∧ w.cell? ⟨E.g, k2, none⟩ = some (.string (Str B)) ∧
    w.frozen? ⟨E.g, k1, none⟩ = false ∧ w.frozen? ⟨E.g, k2, none⟩ = false ∧ (w.setCell ⟨E.g, k1, none⟩ (.string (Str B))).cell? ⟨E.g, k2, none⟩ = some u ∧
    Hid (StX E ((w.setCell ⟨E.g, k1, none⟩ (.string (Str B))).setCell ⟨E.g, k2, none⟩ (.string (Str A))).drew (Sort.swp d k1 k2) c X) := by
  obtain ⟨A, B, u, a1, a2, a3, a4, a5, a6⟩ := h.st.xch h1 h2
  have hne : c ≠ E.g := by have := h.fr; have := h.gl; omega
  exact ⟨A, B, u, a1, a2, a3, a4, a5, Lib.hid ⟨a6.out, ((h.o.other _ _ hne).other _ _ hne).drew, h.fr, h.gl⟩⟩
theorem bits_and_so (a b : Nat) (ha : a < 18446744073709551616) (hb : b < 18446744073709551616) : bits .and .u64 (a : Int) (b : Int) = ((a &&& b : Nat) : Int) := by
  have hx : a &&& b ≤ a := Nat.and_le_left
  have h1 : (BitVec.ofInt 64 (a : Int)).toNat = a := by rw [BitVec.ofInt_natCast, BitVec.toNat_ofNat]; exact Nat.mod_eq_of_lt (by omega)
  have h2 : (BitVec.ofInt 64 (b : Int)).toNat = b := by rw [BitVec.ofInt_natCast, BitVec.toNat_ofNat]; exact Nat.mod_eq_of_lt (by omega)
  show IntKind.u64.wrap ((BitVec.ofInt 64 (a : Int) &&& BitVec.ofInt 64 (b : Int)).toNat : Int) = _
  rw [BitVec.toNat_and, h1, h2, IntKind.wrap_u64]
  omega
theorem xnext_any (rb X : Nat) (hX : X < 18446744073709551616) (w : World) (hc : w.cell? ⟨rb, 0, none⟩ = some (.int .u64 X)) (hf : w.frozen? ⟨rb, 0, none⟩ = false) :
    Calls Try.prog 63 #[.pointer (some ⟨rb, 0, none⟩)] w fun e w' => e = .returned (.int .u64 (Sort.xorNextN X : Nat)) ∧ w' = (w.setCell ⟨rb, 0, none⟩ (.int .u64 (Sort.xorNextN X : Nat))).drewN 3 := by
  have h := AnyF.xorshift_Next Try.xors rb 0 X hX w hc hf
  exact h
theorem np2_any (n : Nat) (hn : n < 4611686018427387904) (w : World) : Calls Try.prog 62 #[.int .i64 n] w fun e w' => e = .returned (.int .u64 ((1 <<< Sort.bitsLen n : Nat) : Int)) ∧ w' = w := by
  have h := AnyF.nextPowerOfTwo Try.np2 n hn w
  exact h
set_option maxRecDepth 1000000 in
set_option maxHeartbeats 8000000 in
theorem brk_any (E : SE) (ok : E.Ok) (a b : Nat) (xa xb : Int) (ea : xa = a) (eb : xb = b) (fv : Value) (d : Array (List UInt8)) (w : World) (S0 : St E w d) (hab : a + 8 ≤ b) (hb : b ≤ E.n) :
    Calls Try.prog 42 #[.slice (some ⟨E.g, 0, none⟩) E.n E.cap, .int .i64 xa, .int .i64 xb, fv] w fun x w' => x = .returned (.tuple #[]) ∧ St E w' (Sort.breakPatterns d a b) := by
  obtain ⟨L, hL⟩ : ∃ L, b = a + L := ⟨b - a, by omega⟩
  subst hL
  have h8 : 8 ≤ L := by omega
  have HNM := Lib.hid ok.nm
  have HX0 := Lib.hid (StX.made S0 ok L)
  have HBN := Lib.hid hb
  have H8 := Lib.hid h8
  have HXA := Lib.hid ea
  obtain ⟨M, HM⟩ : ∃ M, Hid (1 <<< Sort.bitsLen L = M) := ⟨_, Lib.hid rfl⟩
  have HML : Hid (0 < M ∧ M ≤ 2 * L) := Lib.hid (by rw [← HM.out, Nat.one_shiftLeft]; exact ⟨Nat.two_pow_pos _, Sort.two_pow_bitsLen_le (by omega)⟩)
  obtain ⟨q, HQ⟩ : ∃ q, Hid (L / 4 = q) := ⟨_, Lib.hid rfl⟩
  have HQL := Lib.hid (show 4 * q ≤ L ∧ L < 4 * q + 4 ∧ 2 ≤ q by have := HQ.out; omega)
  obtain ⟨i0, HI0⟩ : ∃ i, Hid (a + q * 2 - 1 = i) := ⟨_, Lib.hid rfl⟩
  obtain ⟨R, HRE⟩ : ∃ R, Hid (bpRest a L M i0 (3 - 0) 0 (UInt64.ofNat L, d) = R) := ⟨_, Lib.hid rfl⟩
  rw [breakPatterns_eq d a L h8, HM.out, HQ.out, HI0.out, HRE.out]
  obtain ⟨xl, HXL, wl⟩ := wrapL (xb - xa) (L : Int) (by rw [ea, eb]; omega) (by omega) (by have := HNM.out; have := HBN.out; omega)
  have hge : decide (xl ≥ 8) = true := decide_eq_true (by rw [HXL.out]; omega)
  have hge' : (8 : Int) ≤ xl := by rw [HXL.out]; omega
  have hcv : IntKind.u64.wrap xl = xl := by rw [HXL.out, IntKind.wrap_u64]; have := HNM.out; have := HBN.out; omega
  obtain ⟨xq, HXQ, wq⟩ := wrapL (xl.tdiv 4) (q : Int) (by rw [HXL.out, ← HQ.out]; rfl) (by omega) (by have := HNM.out; have := HBN.out; have := HQL.out; omega)
  obtain ⟨xq2, HXQ2, wq2⟩ := wrapL (xq * 2) ((q * 2 : Nat) : Int) (by rw [HXQ.out]; omega) (by omega) (by have := HNM.out; have := HBN.out; have := HQL.out; omega)
  obtain ⟨xs, HXS, ws⟩ := wrapL (xa + xq2) ((a + q * 2 : Nat) : Int) (by rw [HXQ2.out, ea]; omega) (by omega) (by have := HNM.out; have := HBN.out; have := HQL.out; omega)
  obtain ⟨xs0, HXS0, ws0⟩ := wrapL (xs - 1) (i0 : Int) (by rw [HXS.out, ← HI0.out]; have := HQL.out; omega) (by omega) (by have := HNM.out; have := HBN.out; have := HQL.out; have := HI0.out; omega)
  obtain ⟨xs2, HXS2, ws2⟩ := wrapL (xs + 1) ((i0 + 2 : Nat) : Int) (by rw [HXS.out, ← HI0.out]; have := HQL.out; omega) (by omega) (by have := HNM.out; have := HBN.out; have := HQL.out; have := HI0.out; omega)
  have HNP := Lib.hid (fun W => np2_any L (by have := HNM.out; omega) W)
  rw [HM.out, ← HXL.out] at HNP
  have HXN := Lib.hid (fun c X W h1 h2 h3 => xnext_any c X h1 W h2 h3)
  have HI0B : Hid (i0 + 3 ≤ a + L ∧ a ≤ i0) := Lib.hid (by have := HI0.out; have := HQL.out; omega)
  have HU : Hid ((UInt64.ofNat L).toNat = L) := Lib.hid (by simp; have := HNM.out; omega)
  obtain ⟨m1, HM1, wm1⟩ : ∃ m1 : Int, Hid (m1 = ((M - 1 : Nat) : Int)) ∧ IntKind.u64.wrap ((M : Int) - 1) = m1 := ⟨_, Lib.hid rfl, by rw [IntKind.wrap_u64]; have := HML.out; have := HNM.out; have := HBN.out; omega⟩
  clear ok S0 ea eb hab hb h8
  go_enter Try.func42, Try.ntmps42
  go_wp2_with (go_at_call 62; refine (HNP.out _).mono ?_; rintro x w1 ⟨rfl, rfl⟩)
  rw [← HXL.out] at HX0
  generalize World.alloc _ _ = w1 at HX0 ⊢
  generalize w.heap.size = c at HX0 ⊢
  go_loopw [11, 12] (fun vi vo wr => ∃ (xi : Int) (t : Nat) (dk : Array (List UInt8)) (r : UInt64), vi = .int .i64 xi ∧ Hid (xi = ((i0 + t : Nat) : Int)) ∧ Hid (t ≤ 3) ∧ Hid (StX E wr dk c r.toNat) ∧ Hid (bpRest a L M i0 (3 - t) t (r, dk) = R)) (fun vi _ _ => (i0 + 3 - intOf vi).toNat)
  case atStart => exact ⟨xs0, 0, d, UInt64.ofNat L, rfl, HXS0, Lib.hid (by omega), Lib.hid (by rw [HU.out]; exact HX0.out), HRE⟩
  case round =>
    clear HX0 HRE
    obtain ⟨xi, t, dk, r, rfl, HXI, HT, ST1, HR⟩ := hrel
    by_cases ht : t < 3
    · have hd : decide (xi ≤ xs2) = true := decide_eq_true (by rw [HXI.out, HXS2.out]; omega)
      have hd' : xi ≤ xs2 := by rw [HXI.out, HXS2.out]; omega
      obtain ⟨Y, HY⟩ : ∃ Y, Hid (Sort.xorNextN r.toNat = Y) := ⟨_, Lib.hid rfl⟩
      have HYX : Hid ((Sort.xorNext r).toNat = Y) := Lib.hid (by rw [Sort.xorNext_toNat, HY.out])
      have HYL : Hid (Y < 18446744073709551616) := Lib.hid (by rw [← HYX.out]; exact (Sort.xorNext r).toNat_lt)
      have C1 : Hid (Calls Try.prog 63 #[.pointer (some ⟨c, 0, none⟩)] wr fun e w' => e = .returned (.int .u64 (Y : Nat)) ∧ StX E w' dk c Y) := Lib.hid ((HXN.out c r.toNat wr r.toNat_lt (ST1.out.o.cell 0) (ST1.out.o.free 0)).mono fun e w' ⟨h1, h2⟩ => ⟨by rw [h1, HY.out], by rw [h2, HY.out]; exact ST1.out.next Y⟩)
      obtain ⟨o1, HO1⟩ : ∃ o, Hid (Y &&& (M - 1) = o) := ⟨_, Lib.hid rfl⟩
      have HO1L : Hid (o1 < M) := Lib.hid (by rw [← HO1.out]; have : Y &&& (M - 1) ≤ M - 1 := Nat.and_le_right; have := HML.out; omega)
      have hand : bits .and .u64 (Y : Int) m1 = (o1 : Int) := by rw [HM1.out, bits_and_so _ _ HYL.out (by have := HML.out; have := HNM.out; have := HBN.out; omega), HO1.out]
      obtain ⟨xo, HXO, wo⟩ := wrapL (o1 : Int) (o1 : Int) rfl (by omega) (by have := HML.out; have := HNM.out; have := HBN.out; have := HO1L.out; omega)
      obtain ⟨xi1, HXI1, wi1⟩ := wrapL (xi + 1) ((i0 + (t + 1) : Nat) : Int) (by rw [HXI.out]; omega) (by omega) (by have := HNM.out; have := HBN.out; have := HI0B.out; omega)
      obtain ⟨ki, HKki, HBki, tki, pki, bki⟩ := idxK (x := xi) (i := i0 + t) (n := E.n) (HXI.out) (by have := HI0B.out; have := HBN.out; omega)
      by_cases hol : o1 ≥ L
      · have hq : decide (xo ≥ xl) = true := decide_eq_true (by rw [HXO.out, HXL.out]; omega)
        have hq' : xl ≤ xo := by rw [HXO.out, HXL.out]; omega
        obtain ⟨xp, HXP, wp⟩ := wrapL (xo - xl) ((o1 - L : Nat) : Int) (by rw [HXO.out, HXL.out]; omega) (by omega) (by have := HML.out; have := HNM.out; have := HBN.out; have := HO1L.out; omega)
        obtain ⟨xk, HXK, wk⟩ := wrapL (xa + xp) ((a + (o1 - L) : Nat) : Int) (by rw [HXP.out, HXA.out]; omega) (by omega) (by have := HML.out; have := HNM.out; have := HBN.out; have := HO1L.out; omega)
        obtain ⟨ko, HKko, HBko, tko, pko, bko⟩ := idxK (x := xk) (i := a + (o1 - L)) (n := E.n) (HXK.out) (by have := HML.out; have := HBN.out; have := HO1L.out; omega)
        have HNX : Hid (bpRest a L M i0 (3 - (t + 1)) (t + 1) (Sort.xorNext r, Sort.swp dk ki ko) = R) := Lib.hid (by rw [← HR.out, bp_step a L M i0 t r dk (o1 - L) ht (by rw [HYX.out, HO1.out, if_pos hol]), HKki.out, HKko.out])
        clear HR
        go_wp2_with (go_at_call 63; refine C1.out.mono ?_; rintro x w2 ⟨rfl, h⟩; have ST2 := Lib.hid h; clear h; obtain ⟨A, B, u, l1, l2, f1, f2, l3, ST3⟩ := ST2.out.xch HBki.out HBko.out)
        go_region
        clear l1 l2 f1 f2 l3
        generalize World.drew _ = w3 at ST3 ⊢
        go_wp2
        go_roundw
        case rel => exact ⟨xi1, t + 1, _, Sort.xorNext r, rfl, HXI1, Lib.hid (by omega), Lib.hid (by rw [HYX.out]; exact ST3.out), HNX⟩
        case measure => have := HXI.out; have := HXI1.out; simp only [intOf]; omega
      · have hq : decide (xo ≥ xl) = false := decide_eq_false (by rw [HXO.out, HXL.out]; omega)
        have hq' : ¬ xl ≤ xo := by rw [HXO.out, HXL.out]; omega
        obtain ⟨xk, HXK, wk⟩ := wrapL (xa + xo) ((a + o1 : Nat) : Int) (by rw [HXO.out, HXA.out]; omega) (by omega) (by have := HML.out; have := HNM.out; have := HBN.out; have := HO1L.out; omega)
        obtain ⟨ko, HKko, HBko, tko, pko, bko⟩ := idxK (x := xk) (i := a + o1) (n := E.n) (HXK.out) (by have := HML.out; have := HBN.out; have := HO1L.out; omega)
        have HNX : Hid (bpRest a L M i0 (3 - (t + 1)) (t + 1) (Sort.xorNext r, Sort.swp dk ki ko) = R) := Lib.hid (by rw [← HR.out, bp_step a L M i0 t r dk o1 ht (by rw [HYX.out, HO1.out, if_neg hol]), HKki.out, HKko.out])
        clear HR
        go_wp2_with (go_at_call 63; refine C1.out.mono ?_; rintro x w2 ⟨rfl, h⟩; have ST2 := Lib.hid h; clear h; obtain ⟨A, B, u, l1, l2, f1, f2, l3, ST3⟩ := ST2.out.xch HBki.out HBko.out)
        go_region
        clear l1 l2 f1 f2 l3
        generalize World.drew _ = w3 at ST3 ⊢
        go_wp2
        go_roundw
        case rel => exact ⟨xi1, t + 1, _, Sort.xorNext r, rfl, HXI1, Lib.hid (by omega), Lib.hid (by rw [HYX.out]; exact ST3.out), HNX⟩
        case measure => have := HXI.out; have := HXI1.out; simp only [intOf]; omega
    · have hd : decide (xi ≤ xs2) = false := decide_eq_false (by rw [HXI.out, HXS2.out]; omega)
      have hd' : ¬ xi ≤ xs2 := by rw [HXI.out, HXS2.out]; omega
      have ht3 : t = 3 := by have := HT.out; omega
      have HR2 : Hid (dk = R) := Lib.hid (by rw [← HR.out, ht3]; rfl)
      go_wp2
      go_end0
      exact ⟨rfl, by rw [← HR2.out]; exact ST1.out.st⟩
end Go.Proofs.Ytiegeejbnplhdaa
