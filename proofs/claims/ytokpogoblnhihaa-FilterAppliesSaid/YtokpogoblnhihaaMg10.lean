/-
  Texts joined: EqE, EqI, IpR, IpG, IpU, TqA, TrA, TqB, TlD, TlF, SrA.
-/
import Derived.Test.YtokpogoblnhihaaMg02
import Derived.Test.YtokpogoblnhihaaEth
import Derived.Test.YtokpogoblnhihaaIp
import Derived.Test.YtokpogoblnhihaaMg08
import Derived.Test.YtokpogoblnhihaaMg07
import Derived.Deep.CutRange
import Derived.Deep.LoopGhost
import Derived.Test.YtokpogoblnhihaaMg05
/-
  A frame held against itself: a rule for the walk.
-/
namespace Go.Proofs.Ytokpogoblnhihaa
open Go.RowKit
set_option linter.unusedVariables false

end Go.Proofs.Ytokpogoblnhihaa

/-
  A packet held against itself: a rule for the walk.
-/
namespace Go.Proofs.Ytokpogoblnhihaa
open Go.RowKit
set_option linter.unusedVariables false

end Go.Proofs.Ytokpogoblnhihaa

/-
  The contract of ip4.Read.
-/
namespace Go.Proofs.Ytokpogoblnhihaa
open Go.RowKit
set_option linter.unusedVariables false
attribute [local go_sem ↓] ld_addr st_addr
attribute [local go_sem] ldr_addr str_addr

end Go.Proofs.Ytokpogoblnhihaa

/-
  The document's own Alert.
-/
namespace Go.Proofs.Ytokpogoblnhihaa
open Go.RowKit
set_option linter.unusedVariables false

end Go.Proofs.Ytokpogoblnhihaa

/-
  The document's own reading of a packet: what is wrong.
-/
namespace Go.Proofs.Ytokpogoblnhihaa
open Go.RowKit
set_option linter.unusedVariables false
attribute [local go_sem ↓] ld_addr st_addr
attribute [local go_sem] ldr_addr str_addr

end Go.Proofs.Ytokpogoblnhihaa

/-
  The document's own query of layer 8.
-/
namespace Go.Proofs.Ytokpogoblnhihaa
open Go.RowKit
set_option linter.unusedVariables false
set_option linter.unusedSimpArgs false
attribute [local go_sem ↓] ld_addr st_addr bld_addr
attribute [local go_sem] ldr_addr str_addr

end Go.Proofs.Ytokpogoblnhihaa

/-
  The document's own records of layer 8: the records of a report, read one after the other.
-/
namespace Go.Proofs.Ytokpogoblnhihaa
open Go.RowKit
set_option linter.unusedVariables false
set_option linter.unusedSimpArgs false
attribute [local go_sem ↓] ld_addr st_addr bld_addr
attribute [local go_sem] ldr_addr str_addr

/-- What is left to read of a report's records. -/
def RS (s : List UInt8) (n i m : Nat) (acc : List RC) : Prop := (recL s 8 n).2 = (recL s i m).2 ∧ ((recL s i m).2 = 0 → (recL s 8 n).1 = acc ++ (recL s i m).1)
theorem RS.start (s : List UInt8) (n : Nat) : RS s n 8 n [] := ⟨rfl, fun _ => by simp⟩
theorem RS.done {s : List UInt8} {n i : Nat} {acc : List RC} (h : RS s n i 0 acc) : recL s 8 n = (acc, 0) := by
  obtain ⟨h1, h2⟩ := h
  have e : recL s i 0 = ([], 0) := by unfold recL; rfl
  rw [e] at h1 h2
  exact Prod.ext (by rw [h2 rfl]; simp) h1
theorem RS.step {s : List UInt8} {n i m : Nat} {acc : List RC} (h : RS s n i (m + 1) acc) (h1 : ¬ s.length < i + 8) (h2 : srcsE s (i + 8) (wd s (i + 2)) = 0) (h3 : ¬ s.length < recN s i) :
    RS s n (recN s i) m (if rcOk (rec1 s i) then acc ++ [rec1 s i] else acc) := by
  obtain ⟨a1, a2⟩ := h
  have e : recL s i (m + 1) = if (recL s (recN s i) m).2 ≠ 0 then ([], (recL s (recN s i) m).2) else (if rcOk (rec1 s i) then rec1 s i :: (recL s (recN s i) m).1 else (recL s (recN s i) m).1, 0) := by
    conv => lhs; unfold recL
    rw [if_neg h1, if_neg (by rw [h2]; simp), if_neg h3]
  rw [e] at a1 a2
  by_cases hz : (recL s (recN s i) m).2 = 0
  · rw [if_neg (by rw [hz]; simp)] at a1 a2
    refine ⟨by rw [a1, hz], fun _ => ?_⟩
    rw [a2 rfl]
    split <;> simp
  · rw [if_pos hz] at a1
    exact ⟨a1, fun h => absurd h hz⟩
/-- A record that has been boxed in the region. -/
def RG8 (w0 W : World) (m : Nat) (r : RC) (u : Value) : Prop := RcU W m 0 r u ∧ Below w0.heap.size w0 W ∧ w0.heap.size ≤ m
theorem RG8.below {w0 W W' : World} {m : Nat} {r : RC} {u : Value} (h : RG8 w0 W m r u) (hb : Below W.heap.size W W') : RG8 w0 W' m r u := ⟨h.1.below hb, bstep h.2.1 hb, h.2.2⟩
end Go.Proofs.Ytokpogoblnhihaa

/-
  The document's own Read of layer 8.
-/
namespace Go.Proofs.Ytokpogoblnhihaa
open Go.RowKit
set_option linter.unusedVariables false
set_option linter.unusedSimpArgs false
attribute [local go_sem ↓] ld_addr st_addr bld_addr
attribute [local go_sem] ldr_addr str_addr

end Go.Proofs.Ytokpogoblnhihaa

/-
  Talks made later, and what a reader of talks tells.
-/
namespace Go.Proofs.Ytokpogoblnhihaa
open Go.RowKit
set_option linter.unusedVariables false
set_option linter.unusedSimpArgs false
theorem Rcs.ok {w : World} {v : Value} {l : List RC} (h : Rcs w v l) : ∀ r ∈ l, adOk r.g ∧ ∀ a ∈ r.src, adOk a := by
  intro r hr
  obtain ⟨i, hi, rfl⟩ := List.mem_iff_getElem.1 hr
  obtain ⟨b, o, cap, _, _, _, h3⟩ := h.parts (fun e => by rw [e] at hi; exact absurd hi (by simp))
  obtain ⟨h4, _, u, _, h6⟩ := h3 i hi
  exact ⟨h4, h6.ok⟩
theorem Tks.ok {w : World} {cs : List Value} {t : TK} (h : Tks w cs t) : t.ok := by
  obtain ⟨h1, us, ur, h2, h3, h4⟩ := h
  exact ⟨h1, h3.ok, h4.ok⟩
theorem TM.fok {W : World} {t : TK} {us ur : Value} (ho : adOk t.g) (hs : Ads W us t.src) (hr : Rcs W ur t.rcs) : fok (tkC t us ur).toArray 26 = true := fok_tk ho hs.one hr.one
end Go.Proofs.Ytokpogoblnhihaa

/-
  The law's own copies of addresses, somewhat cut.
-/
namespace Go.Proofs.Ytokpogoblnhihaa
open Go.RowKit
set_option linter.unusedVariables false
attribute [local go_sem ↓] ld_addr st_addr bld_addr adsLit_eq
attribute [local go_sem] ldr_addr str_addr

theorem adsC_take {l : List AD} {k : Nat} (h : k < l.length) : adsC (l.take (k + 1)) = adsC (l.take k) ++ adC l[k] := by
  unfold adsC
  rw [List.take_succ_eq_append_getElem h, List.map_append, List.flatten_append]
  simp
theorem own_len {w : World} {base : Nat} {e : TypeId} {size n k : Nat} {v : Value} {xs : List Value} (h : w.ownsRow base e size v n xs) (hk : n = k) : w.ownsRow base e size v k xs := by subst hk; exact h
end Go.Proofs.Ytokpogoblnhihaa

/-
  The contracts of the document's Same and Has of layer 11.
-/
namespace Go.Proofs.Ytokpogoblnhihaa
open Go.RowKit
set_option linter.unusedVariables false
set_option linter.unusedSimpArgs false
attribute [local go_sem ↓] ld_addr
attribute [local go_sem] ldr_addr row?_drewN_eq row?_drew_eq


set_option maxRecDepth 100000 in
set_option maxHeartbeats 4000000 in
theorem same11_any (va vb : Value) (la lb : List AD) (w : World) (ha : Ads w va la) (hb : Ads w vb lb) :
    Calls Try.prog 33 #[va, vb] w fun x w' => x = .returned (.bool (decide (la = lb))) ∧ ∃ d, w' = w.drewN d := by
  obtain ⟨pa, ca, rfl, ha1, ha2⟩ := ha.len
  obtain ⟨pb, cb, rfl, hb1, hb2⟩ := hb.len
  by_cases hl : la.length = lb.length
  · by_cases h0 : la.length = 0
    · have e1 : la = [] := List.eq_nil_of_length_eq_zero h0
      have e2 : lb = [] := List.eq_nil_of_length_eq_zero (by omega)
      subst e1 e2
      have hz : ((0 : Int) != 0) = false := rfl
      go_enter Try.func33, Try.ntmps33
      go_wp2_with fail
      go_loop [5] (fun i => i = .int .i64 0) (fun _ => 0)
      case atStart => rfl
      case round =>
        subst hrel
        go_wp2
        go_ret
        exact ⟨rfl, 0, rfl⟩
    · have na : la ≠ [] := fun h => h0 (by rw [h]; rfl)
      have nb : lb ≠ [] := fun h => h0 (by rw [hl, h]; rfl)
      obtain ⟨ba, oa, ca', ea, _, _, _, Ra⟩ := ha.parts na
      obtain ⟨bb, ob, cb', eb, _, _, _, Rb⟩ := hb.parts nb
      simp only [Value.slice.injEq] at ea eb
      obtain ⟨rfl, _, _⟩ := ea
      obtain ⟨rfl, _, _⟩ := eb
      have OA := Lib.hid ha.ok
      have OB := Lib.hid hb.ok
      have RA := Lib.hid Ra
      have RB := Lib.hid Rb
      have HL := Lib.hid hl
      obtain ⟨n, hn⟩ : ∃ n, n = la.length := ⟨_, rfl⟩
      rw [← hn] at hl ha1 h0
      rw [← hl]
      rw [← hn]
      have HN := Lib.hid hn
      have hmx : n ≤ maxLen := Nat.le_trans ha1 ha2
      unfold maxLen at hmx
      clear Ra Rb ha hb na nb hn
      have hz : ((n : Int) != (n : Int)) = false := by simp
      go_enter Try.func33, Try.ntmps33
      go_wp2_with fail
      go_loopw [5] (fun i wr => ∃ k : Nat, k ≤ n ∧ i = .int .i64 k ∧ Hid (la.take k = lb.take k) ∧ ∃ d, wr = w.drewN d) (fun i _ => n - (intOf i).toNat)
      case atStart => exact ⟨0, by omega, rfl, Lib.hid (by simp), 0, rfl⟩
      case round =>
        obtain ⟨k, hk, rfl, HT, d, rfl⟩ := hrel
        by_cases hlt : k < n
        · have g1 : k < la.length := by rw [← HN.out]; exact hlt
          have g2 : k < lb.length := by omega
          have r1 := RA.out k g1
          have r2 := RB.out k g2
          have q := fun w0 => eq_ad la[k] lb[k] (OA.out _ (List.getElem_mem g1)) (OB.out _ (List.getElem_mem g2)) w0
          have hd : decide ((k : Int) < (n : Int)) = true := by simp; omega
          have hw1 : IntKind.i64.wrap ((k : Int) + 1) = (k : Int) + 1 := by simp only [IntKind.wrap_i64]; omega
          have hk1 : (k : Int) < (n : Int) := by omega
          by_cases he : la[k] = lb[k]
          · have HS : Hid (la.take (k + 1) = lb.take (k + 1)) := Lib.hid (by rw [List.take_succ_eq_append_getElem g1, List.take_succ_eq_append_getElem g2, HT.out, he])
            rw [decide_eq_true he] at q
            generalize adC la[k] = A at *
            generalize adC lb[k] = B at *
            clear he g1 g2
            go_upto_region 6 with (fail)
            go_quiet (fail)
            go_wp2
            go_roundw
            case rel => exact ⟨k + 1, by omega, by go_num, HS, _, rfl⟩
            case measure => simp [intOf]; omega
          · have HD := Lib.hid (show decide (la = lb) = false by
              rw [decide_eq_false_iff_not]
              intro e
              apply he
              simp only [e])
            rw [decide_eq_false he] at q
            generalize adC la[k] = A at *
            generalize adC lb[k] = B at *
            clear he g1 g2
            go_upto_region 6 with (fail)
            go_quiet (fail)
            go_wp2
            go_ret
            exact ⟨ret_bool8 (by rw [HD.out]), _, World.drewN_drewN _ _ _⟩
        · have hd : ¬ (k : Int) < (n : Int) := by omega
          have HD := Lib.hid (show decide (la = lb) = true by
            rw [decide_eq_true_iff]
            have e := HT.out
            rw [List.take_of_length_le (by rw [← HN.out]; omega), List.take_of_length_le (by omega)] at e
            exact e)
          go_wp2
          go_ret
          exact ⟨ret_bool8 (by rw [HD.out]), _, rfl⟩
  · have HD := Lib.hid (show decide (la = lb) = false by
      rw [decide_eq_false_iff_not]; intro e; exact hl (by rw [e]))
    have hz : ((la.length : Int) != (lb.length : Int)) = true := by simp; omega
    clear ha hb hl
    go_enter Try.func33, Try.ntmps33
    go_wp2
    go_ret
    exact ⟨ret_bool8 (by rw [HD.out]), 0, rfl⟩

theorem mem_take_succ {l : List AD} {k : Nat} (h : k < l.length) (a : AD) : a ∈ l.take (k + 1) ↔ a ∈ l.take k ∨ a = l[k] := by
  rw [List.take_succ_eq_append_getElem h, List.mem_append]; simp

set_option maxRecDepth 100000 in
set_option maxHeartbeats 4000000 in
theorem has11_any (v : Value) (l : List AD) (a : AD) (w : World) (ha : Ads w v l) (ho : adOk a) : Calls Try.prog 25 #[v, .agg (adC a).toArray] w fun x w' => x = .returned (.bool (decide (a ∈ l))) ∧ Below w.heap.size w w' := by
  obtain ⟨p, cap, rfl, h1, h2⟩ := ha.len
  have H0 := Lib.hid (ObjAt.made w (adC a).toArray 37)
  have HB := Lib.hid ((Below.refl w.heap.size w).alloc (Nat.le_refl _) (.cells (adC a).toArray 37))
  have HRO : Hid (∀ W, ObjAt W w.heap.size (adC a).toArray 37 → row? W w.heap.size 0 17 = some (adC a)) := Lib.hid fun W h => obj_row (A := []) (M := adC a) (C := []) (by simpa using h) rfl (adC_length ho)
  have HO := Lib.hid ho
  have HRA : Hid (l ≠ [] → ∃ b o, p = some ⟨b, o, none⟩ ∧ b < w.heap.size ∧ AdsAt w b o l) := Lib.hid fun hne => by
    obtain ⟨b, o, cap', e, _, _, h3, h4⟩ := ha.parts hne
    simp only [Value.slice.injEq] at e
    exact ⟨b, o, e.1, h3, h4⟩
  have OA := Lib.hid ha.ok
  obtain ⟨n, hn⟩ : ∃ n, n = l.length := ⟨_, rfl⟩
  have hmx : n ≤ maxLen := by omega
  unfold maxLen at hmx
  obtain ⟨R, hR⟩ : ∃ R, R = decide (a ∈ l) := ⟨_, rfl⟩
  rw [← hR, ← hn]
  have HR := Lib.hid hR
  have HN := Lib.hid hn
  clear ha ho hn hR h1 h2
  go_enter Try.func25, Try.ntmps25
  go_upto_region 1 with (fail)
  generalize w.alloc _ = W at H0 HB ⊢
  go_wp2_with fail
  go_loopw [5] (fun i wr => ∃ k : Nat, k ≤ n ∧ i = .int .i64 k ∧ Hid (a ∉ l.take k) ∧ ∃ d, wr = W.drewN d) (fun i _ => n - (intOf i).toNat)
  case atStart => exact ⟨0, by omega, rfl, Lib.hid (by simp), 0, rfl⟩
  case round =>
    obtain ⟨k, hk, rfl, HT, d, rfl⟩ := hrel
    by_cases hlt : k < n
    · have g1 : k < l.length := by rw [← HN.out]; exact hlt
      obtain ⟨b, o, rfl, hbl, RA⟩ := HRA.out (fun e => by rw [e] at g1; exact absurd g1 (by simp))
      have r1 := row?_below (RA k g1) hbl HB.out
      have r2 := HRO.out _ H0.out
      have q := fun w0 => eq_ad l[k] a (OA.out _ (List.getElem_mem g1)) HO.out w0
      have hd : decide ((k : Int) < (n : Int)) = true := by simp; omega
      have hw1 : IntKind.i64.wrap ((k : Int) + 1) = (k : Int) + 1 := by simp only [IntKind.wrap_i64]; omega
      have hk1 : (k : Int) < (n : Int) := by omega
      have HM := Lib.hid (mem_take_succ g1 a)
      have HX := Lib.hid (List.getElem_mem g1)
      by_cases he : l[k] = a
      · have HD := Lib.hid (show R = true by rw [HR.out]; exact decide_eq_true (by rw [← he]; exact HX.out))
        rw [decide_eq_true he] at q
        generalize adC l[k] = A at *
        generalize adC a = B at *
        clear he g1 RA HM HX HT
        go_upto_region 4 with (fail)
        go_quiet (fail)
        go_wp2
        go_ret
        exact ⟨ret_bool8 (by rw [HD.out]), bdrewN (bdrewN HB.out _) _⟩
      · have HS : Hid (a ∉ l.take (k + 1)) := Lib.hid (fun h => by
          rcases HM.out.1 h with h | h
          · exact HT.out h
          · exact he h.symm)
        rw [decide_eq_false he] at q
        generalize adC l[k] = A at *
        generalize adC a = B at *
        clear he g1 RA HM HX HT
        go_upto_region 4 with (fail)
        go_quiet (fail)
        go_wp2
        go_roundw
        case rel => exact ⟨k + 1, by omega, by go_num, HS, _, rfl⟩
        case measure => simp [intOf]; omega
    · have hd : ¬ (k : Int) < (n : Int) := by omega
      have HD := Lib.hid (show R = false by
        rw [HR.out]
        have e := HT.out
        rw [List.take_of_length_le (by rw [← HN.out]; omega)] at e
        exact decide_eq_false e)
      go_wp2
      go_ret
      exact ⟨ret_bool8 (by rw [HD.out]), bdrewN HB.out _⟩

end Go.Proofs.Ytokpogoblnhihaa

