/-
  Lists of records in memory, and the document's own comparison of two.
-/
import Derived.Test.YtacnhelnpngkgaaAds
namespace Go.Proofs.Ytacnhelnpngkgaa
open Go.RowKit
set_option linter.unusedVariables false

/-- A record as plain data: its kind, its group, its sources. -/
structure RC where
  kind : Int
  g : AD
  src : List AD
  deriving DecidableEq
def rcC (r : RC) (u : Value) : List Value := .int .i64 r.kind :: (adC r.g ++ [u])
theorem rcC_length {r : RC} (h : adOk r.g) (u : Value) : (rcC r u).length = 19 := by unfold rcC; simp [adC_length h]
/-- A record lies in block b from o on. -/
def RcAt (w : World) (b o : Nat) (r : RC) : Prop := adOk r.g ∧ b < w.heap.size ∧ ∃ u, row? w b o 19 = some (rcC r u) ∧ Ads w u r.src
theorem RcAt.below {w w' : World} {b o : Nat} {r : RC} (h : RcAt w b o r) (hb : Below w.heap.size w w') : RcAt w' b o r := by
  obtain ⟨h1, h2, u, h3, h4⟩ := h
  exact ⟨h1, Nat.lt_of_lt_of_le h2 hb.size, u, row?_below h3 h2 hb, h4.below hb⟩
theorem RcAt.parts {w : World} {b o : Nat} {r : RC} (h : RcAt w b o r) : ∃ u, w.cell? ⟨b, o, none⟩ = some (.int .i64 r.kind) ∧ row? w b (o + 1) 17 = some (adC r.g) ∧ w.cell? ⟨b, o + 18, none⟩ = some u ∧ Ads w u r.src ∧ row? w b o 19 = some (rcC r u) := by
  obtain ⟨h1, h2, u, h3, h4⟩ := h
  obtain ⟨h5, h6⟩ := rangeAt_of_row? h3
  have hl := adC_length h1
  refine ⟨u, h5 0 _ rfl, ?_, ?_, h4, h3⟩
  · have hr : w.rangeAt b (o + 1) (adC r.g) := fun j v hv => by
      have hj := (List.getElem?_eq_some_iff.1 hv).1
      have := h5 (1 + j) v (by
        unfold rcC
        rw [Nat.add_comm 1 j, List.getElem?_cons_succ, List.getElem?_append_left hj]
        exact hv)
      rw [← Nat.add_assoc] at this
      exact this
    have := row?_of hr
    rw [hl] at this
    exact this
  · exact h5 18 u (by
      unfold rcC
      rw [show (18 : Nat) = 17 + 1 from rfl, List.getElem?_cons_succ, List.getElem?_append_right (by omega), hl]
      rfl)
/-- A slice of records. -/
def Rcs (w : World) (v : Value) (l : List RC) : Prop :=
  ∃ (p : Option Addr) (cap : Nat), v = .slice p l.length cap ∧ l.length ≤ cap ∧ cap ≤ maxLen ∧
    (l ≠ [] → ∃ b o, p = some ⟨b, o, none⟩ ∧ ∀ i (h : i < l.length), RcAt w b (o + i * 19) l[i])
theorem Rcs.below {w w' : World} {v : Value} {l : List RC} (h : Rcs w v l) (hb : Below w.heap.size w w') : Rcs w' v l := by
  obtain ⟨p, cap, h1, h2, h3, h5⟩ := h
  refine ⟨p, cap, h1, h2, h3, fun hn => ?_⟩
  obtain ⟨b, o, e1, e3⟩ := h5 hn
  exact ⟨b, o, e1, fun i h => (e3 i h).below hb⟩
theorem Rcs.nil (w : World) : Rcs w (.slice none 0 0) [] := ⟨none, 0, rfl, Nat.le_refl _, by unfold maxLen; omega, fun h => absurd rfl h⟩
theorem Rcs.parts {w : World} {v : Value} {l : List RC} (h : Rcs w v l) (hn : l ≠ []) : ∃ b o cap, v = .slice (some ⟨b, o, none⟩) l.length cap ∧ l.length ≤ cap ∧ cap ≤ maxLen ∧ ∀ i (h : i < l.length), RcAt w b (o + i * 19) l[i] := by
  obtain ⟨p, cap, h1, h2, h3, h5⟩ := h
  obtain ⟨b, o, rfl, e3⟩ := h5 hn
  exact ⟨b, o, cap, h1, h2, h3, e3⟩
theorem Rcs.len {w : World} {v : Value} {l : List RC} (h : Rcs w v l) : ∃ p cap, v = .slice p l.length cap ∧ l.length ≤ cap ∧ cap ≤ maxLen := by obtain ⟨p, cap, h1, h2, h3, h5⟩ := h; exact ⟨p, cap, h1, h2, h3⟩
/-- From a shape. -/
def recS : Shape (Int × ((Bool × (List UInt8 × Unit)) × (List (Bool × (List UInt8 × Unit)) × Unit))) := pairS 1 (intS .i64) (pairS 17 addrS (pairS 1 (sliceS 17 addrS) unitS))
def rcOf (x : Int × ((Bool × (List UInt8 × Unit)) × (List (Bool × (List UInt8 × Unit)) × Unit))) : RC := ⟨x.1, adOf x.2.1, x.2.2.1.map adOf⟩
theorem opens_recS : Opens Try.prog 40 recS :=
  opens_struct Try.underlying40 (opens_cons rfl (by kernel_rfl) (of_decide_eq_true (by kernel_rfl)) (opens_int Try.underlying3)
    (opens_cons rfl (by kernel_rfl) (of_decide_eq_true (by kernel_rfl)) opens_addrS
    (opens_cons rfl (by kernel_rfl) (of_decide_eq_true (by kernel_rfl)) (opens_slice Try.underlying25 (by kernel_rfl) (by omega) opens_addrS) (opens_nil (by kernel_rfl)))))
theorem recS_cells {w : World} {cs : List Value} {x : _} (h : recS w cs x) : adOk (rcOf x).g ∧ ∃ u, cs = rcC (rcOf x) u ∧ Ads w u (rcOf x).src := by
  obtain ⟨c0, d0, rfl, _, h0, c1, d1, rfl, _, h1, c2, d2, rfl, l2, h2, h3⟩ := h
  obtain ⟨e0, _⟩ := h0
  obtain ⟨e1, k1⟩ := addrS_cells h1
  have e3 : d2 = [] := h3
  obtain ⟨u, rfl⟩ : ∃ u, c2 = [u] := by
    match c2, l2 with
    | [u], _ => exact ⟨u, rfl⟩
  subst e0 e1 e3
  exact ⟨k1, u, by simp [rcC, rcOf, adC, adOf], Ads.of h2⟩
theorem Rcs.of {w : World} {v : Value} {xs : List (Int × ((Bool × (List UInt8 × Unit)) × (List (Bool × (List UInt8 × Unit)) × Unit)))} (h : sliceS 19 recS w [v] xs) : Rcs w v (xs.map rcOf) := by
  rcases h with ⟨h1, h2⟩ | ⟨a, cap, h1, h2, h3, h4, h5⟩
  · simp at h1
    subst h1 h2
    exact Rcs.nil w
  · simp at h1
    subst h1
    refine ⟨some a, cap, by simp, by simpa using h2, h3, fun hn => ?_⟩
    have hx : xs ≠ [] := by rintro rfl; exact hn rfl
    obtain ⟨q1, q2⟩ := h4 hx
    obtain ⟨ab, ao, as_⟩ := a
    simp only at q1 q2
    subst q1
    refine ⟨ab, ao, rfl, fun i hi => ?_⟩
    simp at hi
    obtain ⟨c, e1, e2, e3⟩ := h5 i xs[i] (List.getElem?_eq_getElem hi)
    obtain ⟨f1, u, f2, f3⟩ := recS_cells e3
    rw [List.getElem_map]
    refine ⟨f1, q2, u, ?_, f3⟩
    rw [← f2]
    have hr : w.rangeAt ab (ao + i * 19) c := fun j v hv => by
      have hj := (List.getElem?_eq_some_iff.1 hv).1
      rw [Nat.add_assoc, e2 j (by omega)]; exact hv
    have := row?_of hr
    rw [e1] at this
    exact this
theorem Ads.drewN {w : World} {v : Value} {l : List AD} (h : Ads w v l) (d : Nat) : Ads (w.drewN d) v l := h.below (bdrewN (Below.refl _ _) d)
attribute [local go_sem ↓] ld_addr
attribute [local go_sem] ldr_addr row?_drewN_eq row?_drew_eq

set_option maxRecDepth 100000 in
set_option maxHeartbeats 4000000 in
theorem sameRecords_any (va vb : Value) (la lb : List RC) (w : World) (ha : Rcs w va la) (hb : Rcs w vb lb) :
    Calls Try.prog 9 #[va, vb] w fun x w' => x = .returned (.bool (decide (la = lb))) ∧ ∃ d, w' = w.drewN d := by
  obtain ⟨pa, ca, rfl, ha1, ha2⟩ := ha.len
  obtain ⟨pb, cb, rfl, hb1, hb2⟩ := hb.len
  by_cases hl : la.length = lb.length
  · by_cases h0 : la.length = 0
    · have e1 : la = [] := List.eq_nil_of_length_eq_zero h0
      have e2 : lb = [] := List.eq_nil_of_length_eq_zero (by omega)
      subst e1 e2
      have hz : ((0 : Int) != 0) = false := rfl
      go_enter Try.func9, Try.ntmps9
      go_wp2_with fail
      go_loop [5] (fun i => i = .int .i64 0) (fun _ => 0)
      case atStart => rfl
      case round =>
        subst hrel
        go_wp2
        go_ret
        exact ⟨rfl, 0, rfl⟩
    · have na : la ≠ [] := fun h => h0 (by rw [h]; rfl)
      have nb : lb ≠ [] := fun h => h0 (by rw [hl, h]; rfl)
      obtain ⟨ba, oa, ca', ea, _, _, Ra⟩ := ha.parts na
      obtain ⟨bb, ob, cb', eb, _, _, Rb⟩ := hb.parts nb
      simp only [Value.slice.injEq] at ea eb
      obtain ⟨rfl, _, _⟩ := ea
      obtain ⟨rfl, _, _⟩ := eb
      have RA := Lib.hid Ra
      have RB := Lib.hid Rb
      have HL := Lib.hid hl
      obtain ⟨n, hn⟩ : ∃ n, n = la.length := ⟨_, rfl⟩
      rw [← hn] at hl ha1 h0
      rw [← hl]
      rw [← hn]
      have HN := Lib.hid hn
      have hmx : n ≤ maxLen := Nat.le_trans ha1 ha2
      unfold maxLen at hmx
      clear Ra Rb ha hb na nb hn
      have hz : ((n : Int) != (n : Int)) = false := by simp
      go_enter Try.func9, Try.ntmps9
      go_wp2_with fail
      go_loopw [5] (fun i wr => ∃ k : Nat, k ≤ n ∧ i = .int .i64 k ∧ Hid (la.take k = lb.take k) ∧ ∃ d, wr = w.drewN d) (fun i _ => n - (intOf i).toNat)
      case atStart => exact ⟨0, by omega, rfl, Lib.hid (by simp), 0, rfl⟩
      case round =>
        obtain ⟨k, hk, rfl, HT, d, rfl⟩ := hrel
        by_cases hlt : k < n
        · have g1 : k < la.length := by rw [← HN.out]; exact hlt
          have g2 : k < lb.length := by omega
          obtain ⟨ua, a1, a2, a3, a4, _⟩ := (RA.out k g1).parts
          obtain ⟨ub, b1, b2, b3, b4, _⟩ := (RB.out k g2).parts
          have q := fun w0 => eq_ad la[k].g lb[k].g (RA.out k g1).1 (RB.out k g2).1 w0
          have HS : Hid (∀ dd, Calls Try.prog 24 #[ua, ub] (w.drewN (d + dd)) fun e w' => e = .returned (.bool (decide (la[k].src = lb[k].src))) ∧ ∃ n, w' = w.drewN (d + n)) := Lib.hid fun dd => by
            refine (sameAddrs_any ua ub la[k].src lb[k].src (w.drewN (d + dd)) (a4.drewN _) (b4.drewN _)).mono ?_
            rintro e w' ⟨he, m, hm⟩
            exact ⟨he, dd + m, by rw [hm, World.drewN_drewN, Nat.add_assoc]⟩
          have hd : decide ((k : Int) < (n : Int)) = true := by simp; omega
          have hw1 : IntKind.i64.wrap ((k : Int) + 1) = (k : Int) + 1 := by simp only [IntKind.wrap_i64]; omega
          have hk1 : (k : Int) < (n : Int) := by omega
          have HD : Hid (la[k] ≠ lb[k] → decide (la = lb) = false) := Lib.hid fun he => by
            rw [decide_eq_false_iff_not]
            intro e
            apply he
            simp only [e]
          have HE : Hid (la[k] = lb[k] → la.take (k + 1) = lb.take (k + 1)) := Lib.hid fun he => by rw [List.take_succ_eq_append_getElem g1, List.take_succ_eq_append_getElem g2, HT.out, he]
          generalize la[k] = x at *
          generalize lb[k] = y at *
          obtain ⟨xk, xg, xs⟩ := x
          obtain ⟨yk, yg, ys⟩ := y
          simp only at a1 a2 a4 b1 b2 b4 q HS
          clear a4 b4 g1 g2
          by_cases e1 : xk = yk
          · have t1 : (xk != yk) = false := by simpa using e1
            by_cases e2 : xg = yg
            · rw [decide_eq_true e2] at q
              generalize adC xg = A at *
              generalize adC yg = B at *
              by_cases e3 : xs = ys
              · rw [decide_eq_true e3] at HS
                have HS2 := Lib.hid (HE.out (by rw [e1, e2, e3]))
                clear e1 e2 e3 HE HD
                go_upto_region 6 with (fail)
                go_quiet ((go_at_call 24; exact HS.out _))
                go_wp2
                go_roundw
                case rel => exact ⟨k + 1, by omega, by go_num, HS2, by first | exact ⟨_, rfl⟩ | exact ⟨_, World.drewN_drewN _ _ _⟩⟩
                case measure => simp [intOf]; omega
              · rw [decide_eq_false e3] at HS
                have HD2 := Lib.hid (HD.out (by intro h; simp only [RC.mk.injEq] at h; exact e3 h.2.2))
                clear e1 e2 e3 HE HD
                go_upto_region 6 with (fail)
                go_quiet ((go_at_call 24; exact HS.out _))
                go_wp2
                go_ret
                exact ⟨ret_bool8 (by rw [HD2.out]), _, World.drewN_drewN _ _ _⟩
            · rw [decide_eq_false e2] at q
              have HD2 := Lib.hid (HD.out (by intro h; simp only [RC.mk.injEq] at h; exact e2 h.2.1))
              generalize adC xg = A at *
              generalize adC yg = B at *
              clear e1 e2 HE HD
              go_upto_region 6 with (fail)
              go_quiet (fail)
              go_wp2
              go_ret
              exact ⟨ret_bool8 (by rw [HD2.out]), _, World.drewN_drewN _ _ _⟩
          · have t1 : (xk != yk) = true := by simpa using e1
            have HD2 := Lib.hid (HD.out (by intro h; simp only [RC.mk.injEq] at h; exact e1 h.1))
            clear e1 HE HD
            go_upto_region 6 with (fail)
            go_quiet (fail)
            go_wp2
            go_ret
            exact ⟨ret_bool8 (by rw [HD2.out]), _, World.drewN_drewN _ _ _⟩
        · have hd : ¬ (k : Int) < (n : Int) := by omega
          have HD := Lib.hid (show decide (la = lb) = true by
            rw [decide_eq_true_iff]
            have e := HT.out
            rw [List.take_of_length_le (by rw [← HN.out]; omega), List.take_of_length_le (by omega)] at e
            exact e)
          go_wp2
          go_ret
          exact ⟨ret_bool8 (by rw [HD.out]), _, rfl⟩
  · have HD := Lib.hid (show decide (la = lb) = false by
      rw [decide_eq_false_iff_not]; intro e; exact hl (by rw [e]))
    have hz : ((la.length : Int) != (lb.length : Int)) = true := by simp; omega
    clear ha hb hl
    go_enter Try.func9, Try.ntmps9
    go_wp2
    go_ret
    exact ⟨ret_bool8 (by rw [HD.out]), 0, rfl⟩
end Go.Proofs.Ytacnhelnpngkgaa
