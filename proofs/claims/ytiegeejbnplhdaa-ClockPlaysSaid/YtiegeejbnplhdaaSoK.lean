/-
  How the library's sort chooses a pivot.
-/
import Derived.Test.YtiegeejbnplhdaaSoB
namespace Go.Proofs.Ytiegeejbnplhdaa
open Go.RowKit
set_option linter.unusedVariables false
set_option linter.unusedSimpArgs false

/-- .. with the count of exchanges in block c. -/
structure StC (E : SE) (w : World) (d : Array (List UInt8)) (c s : Nat) : Prop where
  st : St E w d
  o : ObjAt w c #[.int .i64 (s : Int)] 3
  fr : E.w0.heap.size ≤ c
  gl : E.g < E.w0.heap.size
variable {E : SE} {w : World} {d : Array (List UInt8)} {c s : Nat}
theorem StC.below {w' : World} (h : StC E w d c s) (hb : Below w.heap.size w w') : StC E w' d c s := ⟨h.st.below hb, h.o.below hb h.o.lt, h.fr, h.gl⟩
theorem StC.bump (h : StC E w d c s) (t : Nat) : StC E (w.setCell ⟨c, 0, none⟩ (.int .i64 (t : Int))) d c t := by
  have hne : E.g ≠ c := by have := h.fr; have := h.gl; omega
  obtain ⟨cur, h1, h2, h3⟩ := h.st.row
  refine ⟨⟨?_, ⟨cur, (heap_setCell_other w ⟨c, 0, none⟩ E.g _ hne).trans h1, h2, h3⟩, h.st.sz, h.st.kl⟩, h.o.set 0 _, h.fr, h.gl⟩
  have g := h.st.gr
  exact ⟨g.os, g.tape, g.output, Nat.le_trans g.size (by simp), fun k hk hn => (heap_setCell_other w ⟨c, 0, none⟩ k _ (by have := h.fr; show k ≠ c; omega)).trans (g.block k hk hn)⟩
theorem StC.test (h : StC E w d c s) (ok : E.Ok) {k1 k2 : Nat} (h1 : k1 < E.n) (h2 : k2 < E.n) : ∃ (S : World → Prop) (X Y : List UInt8) (c0 : Int), Hid (S w.drew) ∧ Hid (∀ W, S W → StC E W d c s) ∧ Hid (∀ W W', S W → Below W.heap.size W W' → S W') ∧
    (∀ p : InS S, p.W.cell? ⟨E.g, k1, none⟩ = some (.string (Str X))) ∧ (∀ p : InS S, p.W.cell? ⟨E.g, k2, none⟩ = some (.string (Str Y))) ∧
    Hid (∀ W, S W → Calls Try.prog 29 #[.pointer (some ⟨E.b, 0, none⟩), .string (Str X), .string (Str Y)] W fun e w' => e = .returned (.int .i64 c0) ∧ Below W.heap.size W w') ∧ Hid (E.lt d[k1]! d[k2]! = decide (c0 < 0)) :=
  ⟨fun W => StC E W d c s, d[k1]!, d[k2]!, cfE E.l d[k1]! d[k2]!, Lib.hid (h.below (bdrewN (Below.refl _ _) 1)), Lib.hid (fun _ h => h), Lib.hid (fun _ _ h hb => h.below hb), fun p => p.h.st.c h1, fun p => p.h.st.c h2,
    Lib.hid fun W hW => hW.st.cmpB ok _ _ (h.st.kl _ h1) (h.st.kl _ h2), Lib.hid rfl⟩
set_option maxRecDepth 1000000 in
set_option maxHeartbeats 4000000 in
theorem order2_any (E : SE) (ok : E.Ok) (a b cb s : Nat) (xa xb : Int) (ea : xa = a) (eb : xb = b) (d : Array (List UInt8)) (w : World) (S0 : StC E w d cb s) (ha : a < E.n) (hb : b < E.n) (hs : s < 1000) :
    Calls Try.prog 69 #[.slice (some ⟨E.g, 0, none⟩) E.n E.cap, .int .i64 xa, .int .i64 xb, .pointer (some ⟨cb, 0, none⟩), .func (.func 29) #[.pointer (some ⟨E.b, 0, none⟩)] #[]] w fun x w' => x = .returned (.tuple #[.int .i64 ((Sort.order2 E.lt d a b s).1 : Nat), .int .i64 ((Sort.order2 E.lt d a b s).2.1 : Nat)]) ∧ StC E w' d cb (Sort.order2 E.lt d a b s).2.2 := by
  have HK := Lib.hid ok
  have ST := Lib.hid S0
  have HXA := Lib.hid ea
  have HXB := Lib.hid eb
  have hw : IntKind.i64.wrap ((s : Int) + 1) = (((s + 1 : Nat)) : Int) := by simp only [IntKind.wrap_i64]; omega
  clear ok S0 ea eb hs
  obtain ⟨ka, HKka, HBka, tka, pka, bka⟩ := idxK (x := xa) (i := a) (n := E.n) (HXA.out) (ha)
  obtain ⟨kb, HKkb, HBkb, tkb, pkb, bkb⟩ := idxK (x := xb) (i := b) (n := E.n) (HXB.out) (hb)
  clear ha hb
  have HO : Hid (Sort.order2 E.lt d a b s = if E.lt d[kb]! d[ka]! then (b, a, s + 1) else (a, b, s)) := Lib.hid (by rw [HKka.out, HKkb.out]; rfl)
  go_enter Try.func69, Try.ntmps69
  obtain ⟨S, X, Y, c, HS0, HSE, HKP, l1, l2, HC, HLT⟩ := ST.out.test HK.out HBkb.out HBka.out
  have hne : Nonempty (InS S) := ⟨⟨_, HS0.out⟩⟩
  by_cases hv : c < 0
  · have hv1 : decide (c < 0) = true := decide_eq_true hv
    have hlt := HLT.out.trans hv1
    have HLT := Lib.hid hlt
    clear hlt
    go_wp2_with fail
    refine wp_region_inS S (by kernel_rfl) (by kernel_rfl) HS0.out ?_
    repeat (go_big_quiet_step (exact Calls.inS HKP.out _ HC.out))
    refine wpQuiet_nil ?_
    rintro w2 ⟨⟨W2, hS2⟩, rfl⟩
    have ST2 := Lib.hid (HSE.out _ hS2)
    clear hS2 hne l1 l2 HS0 HSE HKP HC
    have HO2 : Hid (Sort.order2 E.lt d a b s = (b, a, s + 1)) := Lib.hid (by rw [HO.out, HLT.out]; rfl)
    have l3 : w2.cell? ⟨cb, 0, none⟩ = some (.int .i64 (s : Int)) := ST2.out.o.cell 0
    have f3 : w2.frozen? ⟨cb, 0, none⟩ = false := ST2.out.o.free 0
    have ST3 := Lib.hid (ST2.out.bump (s + 1))
    clear HO
    go_wp2
    refine bodyPost_ret (results_tmp2 rfl _ _ _) rfl ?_
    rw [HO2.out, ← HXA.out, ← HXB.out]
    exact ⟨rfl, ST3.out⟩
  · have hv1 : decide (c < 0) = false := decide_eq_false hv
    have hlt := HLT.out.trans hv1
    have HLT := Lib.hid hlt
    clear hlt
    go_wp2_with fail
    refine wp_region_inS S (by kernel_rfl) (by kernel_rfl) HS0.out ?_
    repeat (go_big_quiet_step (exact Calls.inS HKP.out _ HC.out))
    refine wpQuiet_nil ?_
    rintro w2 ⟨⟨W2, hS2⟩, rfl⟩
    have ST2 := Lib.hid (HSE.out _ hS2)
    clear hS2 hne l1 l2 HS0 HSE HKP HC
    have HO2 : Hid (Sort.order2 E.lt d a b s = (a, b, s)) := Lib.hid (by rw [HO.out, HLT.out]; rfl)
    clear HO
    go_wp2
    refine bodyPost_ret (results_tmp2 rfl _ _ _) rfl ?_
    rw [HO2.out, ← HXA.out, ← HXB.out]
    exact ⟨rfl, ST2.out⟩

theorem order2_lt {lt : List UInt8 → List UInt8 → Bool} (d : Array (List UInt8)) {a b s n : Nat} (ha : a < n) (hb : b < n) : (Sort.order2 lt d a b s).1 < n ∧ (Sort.order2 lt d a b s).2.1 < n ∧ (Sort.order2 lt d a b s).2.2 ≤ s + 1 := by
  unfold Sort.order2
  split <;> exact ⟨by assumption, by assumption, by simp⟩
set_option maxRecDepth 1000000 in
set_option maxHeartbeats 4000000 in
theorem median_any (E : SE) (ok : E.Ok) (a b e c s : Nat) (xa xb xe : Int) (ea : xa = a) (eb : xb = b) (ee : xe = e) (d : Array (List UInt8)) (w : World) (S0 : StC E w d c s) (ha : a < E.n) (hb : b < E.n) (he : e < E.n) (hs : s < 900) :
    Calls Try.prog 65 #[.slice (some ⟨E.g, 0, none⟩) E.n E.cap, .int .i64 xa, .int .i64 xb, .int .i64 xe, .pointer (some ⟨c, 0, none⟩), .func (.func 29) #[.pointer (some ⟨E.b, 0, none⟩)] #[]] w fun x w' => x = .returned (.int .i64 ((Sort.median E.lt d a b e s).1 : Nat)) ∧ StC E w' d c (Sort.median E.lt d a b e s).2 ∧ (Sort.median E.lt d a b e s).1 < E.n ∧ (Sort.median E.lt d a b e s).2 ≤ s + 3 := by
  have HO := Lib.hid (fun a b s xa xb w h1 h2 h3 h4 h5 h6 => order2_any E ok a b c s xa xb h1 h2 d w h3 h4 h5 h6)
  have ST := Lib.hid S0
  have HE := Lib.hid ee
  have HA := Lib.hid ea
  have HB := Lib.hid eb
  have HEN := Lib.hid he
  have H1 := Lib.hid (order2_lt (lt := E.lt) d (s := s) ha hb)
  have HAN := Lib.hid ha
  have HBN := Lib.hid hb
  have HS := Lib.hid hs
  have HR : Hid (Sort.median E.lt d a b e s = ((Sort.order2 E.lt d (Sort.order2 E.lt d a b s).1 (Sort.order2 E.lt d (Sort.order2 E.lt d a b s).2.1 e (Sort.order2 E.lt d a b s).2.2).1 (Sort.order2 E.lt d (Sort.order2 E.lt d a b s).2.1 e (Sort.order2 E.lt d a b s).2.2).2.2).2.1, (Sort.order2 E.lt d (Sort.order2 E.lt d a b s).1 (Sort.order2 E.lt d (Sort.order2 E.lt d a b s).2.1 e (Sort.order2 E.lt d a b s).2.2).1 (Sort.order2 E.lt d (Sort.order2 E.lt d a b s).2.1 e (Sort.order2 E.lt d a b s).2.2).2.2).2.2)) := Lib.hid rfl
  obtain ⟨R, HRE⟩ : ∃ R, Hid (Sort.median E.lt d a b e s = R) := ⟨_, Lib.hid rfl⟩
  rw [HRE.out] at HR ⊢
  clear ok S0 ea eb ee ha hb he hs HRE
  have C1 : Hid (∀ W, StC E W d c s → _) := Lib.hid fun W h => HO.out a b s xa xb W HA.out HB.out h HAN.out HBN.out (by have := HS.out; omega)
  obtain ⟨r1, HR1⟩ : ∃ r, Hid (Sort.order2 E.lt d a b s = r) := ⟨_, Lib.hid rfl⟩
  rw [HR1.out] at H1 HR C1
  obtain ⟨p1, p2, p3⟩ := r1
  simp only at H1 HR C1
  have H2 := Lib.hid (order2_lt (lt := E.lt) d (s := p3) H1.out.2.1 HEN.out)
  have C2 : Hid (∀ W, StC E W d c p3 → _) := Lib.hid fun W h => HO.out p2 e p3 _ _ W rfl HE.out h H1.out.2.1 HEN.out (by have := HS.out; have := H1.out.2.2; omega)
  obtain ⟨r2, HR2⟩ : ∃ r, Hid (Sort.order2 E.lt d p2 e p3 = r) := ⟨_, Lib.hid rfl⟩
  rw [HR2.out] at H2 HR C2
  obtain ⟨q1, q2, q3⟩ := r2
  simp only at H2 HR C2
  have H3 := Lib.hid (order2_lt (lt := E.lt) d (s := q3) H1.out.1 H2.out.1)
  have C3 : Hid (∀ W, StC E W d c q3 → _) := Lib.hid fun W h => HO.out p1 q1 q3 _ _ W rfl rfl h H1.out.1 H2.out.1 (by have := HS.out; have := H1.out.2.2; have := H2.out.2.2; omega)
  obtain ⟨r3, HR3⟩ : ∃ r, Hid (Sort.order2 E.lt d p1 q1 q3 = r) := ⟨_, Lib.hid rfl⟩
  rw [HR3.out] at H3 HR C3
  obtain ⟨u1, u2, u3⟩ := r3
  simp only at H3 HR C3
  have HFIN : Hid (u2 < E.n ∧ u3 ≤ s + 3) := Lib.hid ⟨H3.out.2.1, by have := H1.out.2.2; have := H2.out.2.2; have := H3.out.2.2; omega⟩
  clear HR1 HR2 HR3 H1 H2 H3 HO
  go_enter Try.func65, Try.ntmps65
  go_wp2_with (first
    | (go_at_call 69; (with_reducible refine (C3.out _ ST2.out).mono ?_); rintro x w3 ⟨rfl, h⟩; have ST3 := Lib.hid h; clear h)
    | (go_at_call 69; (with_reducible refine (C2.out _ ST1.out).mono ?_); rintro x w2 ⟨rfl, h⟩; have ST2 := Lib.hid h; clear h)
    | (go_at_call 69; (with_reducible refine (C1.out _ ST.out).mono ?_); rintro x w1 ⟨rfl, h⟩; have ST1 := Lib.hid h; clear h))
  go_ret
  rw [HR.out]
  exact ⟨rfl, ST3.out, HFIN.out⟩
set_option maxRecDepth 1000000 in
theorem medAdj_any (E : SE) (ok : E.Ok) (a c s : Nat) (xa : Int) (ea : xa = a) (d : Array (List UInt8)) (w : World) (S0 : StC E w d c s) (h0 : 0 < a) (ha : a + 1 < E.n) (hs : s < 900) :
    Calls Try.prog 64 #[.slice (some ⟨E.g, 0, none⟩) E.n E.cap, .int .i64 xa, .pointer (some ⟨c, 0, none⟩), .func (.func 29) #[.pointer (some ⟨E.b, 0, none⟩)] #[]] w fun x w' => x = .returned (.int .i64 ((Sort.medianAdjacent E.lt d a s).1 : Nat)) ∧ StC E w' d c (Sort.medianAdjacent E.lt d a s).2 ∧ (Sort.medianAdjacent E.lt d a s).1 < E.n ∧ (Sort.medianAdjacent E.lt d a s).2 ≤ s + 3 := by
  have hnm := ok.nm
  have HM := Lib.hid (fun x1 x2 h1 h2 => median_any E ok (a - 1) a (a + 1) c s x1 xa x2 h1 ea h2 d w S0 (by omega) (by omega) ha hs)
  obtain ⟨x1, HX1, w1⟩ := wrapL (xa - 1) ((a - 1 : Nat) : Int) (by rw [ea]; omega) (by omega) (by omega)
  obtain ⟨x2, HX2, w2⟩ := wrapL (xa + 1) ((a + 1 : Nat) : Int) (by rw [ea]; omega) (by omega) (by omega)
  have HM2 := Lib.hid (HM.out x1 x2 HX1.out HX2.out)
  change Hid (Calls Try.prog _ _ w fun x w' => x = .returned (.int .i64 ((Sort.medianAdjacent E.lt d a s).1 : Nat)) ∧ StC E w' d c (Sort.medianAdjacent E.lt d a s).2 ∧ (Sort.medianAdjacent E.lt d a s).1 < E.n ∧ (Sort.medianAdjacent E.lt d a s).2 ≤ s + 3) at HM2
  generalize Sort.medianAdjacent E.lt d a s = r at *
  clear ok ea S0 h0 ha hs HM hnm HX1 HX2
  go_enter Try.func64, Try.ntmps64
  go_wp2_with (go_at_call 65; refine HM2.out.mono ?_; rintro x w1 ⟨rfl, h⟩; have H := Lib.hid h; clear h)
  go_ret
  exact ⟨rfl, H.out⟩
end Go.Proofs.Ytiegeejbnplhdaa
