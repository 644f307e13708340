/-
  The document's answers of layer 12: Find, Due, Same, Keys, Cut.
-/
import Derived.Test.YtiegeejbnplhdaaVec
import Derived.Test.YtiegeejbnplhdaaPureCk
import Derived.Sort.Walk0
import Derived.Deep.RegionHeld3
import Derived.Deep.Cut
import Derived.BigQuiet
import Derived.LoopTactic
import Derived.Deep.QuietTactic
namespace Go.Proofs.Ytiegeejbnplhdaa
open Go.RowKit
set_option linter.unusedVariables false
set_option linter.unusedSimpArgs false

/-- An entry's cells, and a text's. -/
def enC (x : EN) : List Value := [.string (Str x.1), .int .i64 x.2]
def KE : Kind EN := ⟨enC, 2, by omega, fun _ => rfl, fun a u hu => by simp [enC] at hu; rcases hu with rfl | rfl <;> rfl⟩
def KS : Kind (List UInt8) := ⟨fun s => [.string (Str s)], 1, by omega, fun _ => rfl, fun a u hu => by simp at hu; subst hu; rfl⟩
theorem str_beqK (a b : List UInt8) : ((Str a).toList == (Str b).toList) = decide (a = b) := by
  rw [ByteArray.toList_eq, ByteArray.toList_eq, Str_data, Str_data]
  rw [Bool.eq_iff_iff, beq_iff_eq, decide_eq_true_eq]
theorem str_lessK (a b : List UInt8) : Op.bytesLess (Str a).toList (Str b).toList = ltK a b := by
  rw [bytesLess_eq, ByteArray.toList_eq, ByteArray.toList_eq, Str_data, Str_data]
  rfl
/-- The place of a key. -/
def findE (l : List EN) (k : List UInt8) : Int := match l.findIdx? (fun x => decide (x.1 = k)) with | some i => (i : Int) | none => -1
theorem findE_none {l : List EN} {k : List UInt8} (h : ∀ x ∈ l, x.1 ≠ k) : findE l k = -1 := by
  unfold findE
  have : l.findIdx? (fun x => decide (x.1 = k)) = none := List.findIdx?_eq_none_iff.2 (fun x hx => by simpa using h x hx)
  rw [this]
theorem findE_at {l : List EN} {k : List UInt8} {i : Nat} (hi : i < l.length) (h : ∀ x ∈ l.take i, x.1 ≠ k) (he : l[i].1 = k) : findE l k = (i : Int) := by
  unfold findE
  have : l.findIdx? (fun x => decide (x.1 = k)) = some i := by
    rw [List.findIdx?_eq_some_iff_getElem]
    refine ⟨hi, by simpa using he, fun j hj => ?_⟩
    have := h l[j] (List.mem_take_iff_getElem.2 ⟨j, by omega, rfl⟩)
    simpa using this
  rw [this]
theorem KE_key {w : World} {b o : Nat} {l : List EN} (h : KE.At w b o l) {i : Nat} (hi : i < l.length) : w.cell? ⟨b, o + i * 2, none⟩ = some (.string (Str l[i].1)) ∧ w.cell? ⟨b, o + i * 2 + 1, none⟩ = some (.int .i64 l[i].2) :=
  ⟨h.cell hi 0 _ rfl, h.cell hi 1 _ rfl⟩
theorem KS_str {w : World} {b o : Nat} {l : List (List UInt8)} (h : KS.At w b o l) {i : Nat} (hi : i < l.length) : w.cell? ⟨b, o + i, none⟩ = some (.string (Str l[i])) := by
  have := h.cell hi 0 _ rfl
  rwa [show o + i * KS.n + 0 = o + i by show o + i * 1 + 0 = _; omega] at this
theorem take_none_succ {l : List EN} {k : List UInt8} {i : Nat} (hi : i < l.length) (h : ∀ x ∈ l.take i, x.1 ≠ k) (hn : l[i].1 ≠ k) : ∀ x ∈ l.take (i + 1), x.1 ≠ k := by
  intro x hx
  rw [List.take_succ_eq_append_getElem hi, List.mem_append, List.mem_singleton] at hx
  rcases hx with hx | rfl
  · exact h x hx
  · exact hn

set_option maxRecDepth 100000 in
theorem find12_any (v : Value) (l : List EN) (key : List UInt8) (w : World) (ha : Vec KE w v l) : Calls Try.prog 8 #[v, .string (Str key)] w fun x w' => x = .returned (.int .i64 (findE l key)) ∧ w = w' := by
  obtain ⟨p, cap, rfl, h1, h2, _⟩ := ha.len
  have HRA : Hid (l ≠ [] → ∃ b o, p = some ⟨b, o, none⟩ ∧ b < w.heap.size ∧ KE.At w b o l) := Lib.hid fun hne => by
    obtain ⟨b, o, cap', e, _, _, h3, h4⟩ := ha.parts hne
    simp only [Value.slice.injEq] at e
    exact ⟨b, o, e.1, h3, h4⟩
  obtain ⟨n, hn⟩ : ∃ n, n = l.length := ⟨_, rfl⟩
  have hmx : n ≤ maxLen := by omega
  unfold maxLen at hmx
  rw [← hn]
  have HN := Lib.hid hn
  clear ha hn h1 h2
  go_enter Try.func8, Try.ntmps8
  go_wp2_with fail
  go_loopw [5] (fun i wr => ∃ k : Nat, k ≤ n ∧ i = .int .i64 k ∧ Hid (∀ x ∈ l.take k, x.1 ≠ key) ∧ wr = w) (fun i _ => n - (intOf i).toNat)
  case atStart => exact ⟨0, by omega, rfl, Lib.hid (fun x hx => by simp at hx), rfl⟩
  case round =>
    obtain ⟨k, hk, rfl, HT, rfl⟩ := hrel
    by_cases hlt : k < n
    · have g1 : k < l.length := by rw [← HN.out]; exact hlt
      obtain ⟨b, o, rfl, hbl, RA⟩ := HRA.out (fun e => by rw [e] at g1; exact absurd g1 (by simp))
      have r1 := (KE_key RA g1).1
      have hw1 : IntKind.i64.wrap ((k : Int) + 1) = (k : Int) + 1 := by simp only [IntKind.wrap_i64]; omega
      have hk1 : (k : Int) < (n : Int) := by omega
      have hq := str_beqK l[k].1 key
      by_cases he : l[k].1 = key
      · have HF := Lib.hid (findE_at g1 HT.out he)
        rw [decide_eq_true he] at hq
        generalize l[k].1 = c at *
        clear RA hbl g1 he
        go_wp2
        go_ret
        exact ⟨by rw [HF.out]; rfl, rfl⟩
      · have HS := Lib.hid (take_none_succ g1 HT.out he)
        rw [decide_eq_false he] at hq
        generalize l[k].1 = c at *
        clear RA hbl g1 he
        go_wp2
        go_roundw
        case rel => exact ⟨k + 1, by omega, by go_num, HS, trivial⟩
        case measure => simp [intOf]; omega
    · have hk1 : ¬ (k : Int) < (n : Int) := by omega
      have hkn : k = n := by omega
      have HF : Hid (findE l key = -1) := Lib.hid (findE_none (by have := HT.out; rwa [hkn, HN.out, List.take_length] at this))
      go_wp2
      go_ret
      exact ⟨by rw [HF.out]; rfl, rfl⟩

theorem dueE_at {l : List EN} {now : Int} {k : Nat} (hk : k ≤ l.length) (h1 : ∀ x ∈ l.take k, x.2 ≤ now) (h2 : ∀ h : k < l.length, ¬ l[k].2 ≤ now) : dueE l now = k := by
  unfold dueE
  induction l generalizing k with
  | nil => simp at hk; subst hk; rfl
  | cons b r ih =>
    cases k with
    | zero =>
      have := h2 (by simp)
      simp only [List.getElem_cons_zero] at this
      simp [List.takeWhile_cons, this]
    | succ k =>
      have hb := h1 b (by simp)
      have := ih (k := k) (by simpa using hk) (fun x hx => h1 x (by simp [hx])) (fun h => by have := h2 (by simpa using h); simpa using this)
      simp [List.takeWhile_cons, hb, this]
theorem take_due_succ {l : List EN} {now : Int} {i : Nat} (hi : i < l.length) (h : ∀ x ∈ l.take i, x.2 ≤ now) (hn : l[i].2 ≤ now) : ∀ x ∈ l.take (i + 1), x.2 ≤ now := by
  intro x hx
  rw [List.take_succ_eq_append_getElem hi, List.mem_append, List.mem_singleton] at hx
  rcases hx with hx | rfl
  · exact h x hx
  · exact hn
set_option maxRecDepth 100000 in
theorem due12_any (v : Value) (l : List EN) (now : Int) (w : World) (ha : Vec KE w v l) : Calls Try.prog 9 #[v, .int .i64 now] w fun x w' => x = .returned (.int .i64 (dueE l now : Nat)) ∧ w = w' := by
  obtain ⟨p, cap, rfl, h1, h2, _⟩ := ha.len
  have HRA : Hid (l ≠ [] → ∃ b o, p = some ⟨b, o, none⟩ ∧ b < w.heap.size ∧ KE.At w b o l) := Lib.hid fun hne => by
    obtain ⟨b, o, cap', e, _, _, h3, h4⟩ := ha.parts hne
    simp only [Value.slice.injEq] at e
    exact ⟨b, o, e.1, h3, h4⟩
  obtain ⟨n, hn⟩ : ∃ n, n = l.length := ⟨_, rfl⟩
  have hmx : n ≤ maxLen := by omega
  unfold maxLen at hmx
  rw [← hn]
  have HN := Lib.hid hn
  clear ha hn h1 h2
  go_enter Try.func9, Try.ntmps9
  go_wp2_with fail
  go_loopw [5] (fun i wr => ∃ k : Nat, k ≤ n ∧ i = .int .i64 k ∧ Hid (∀ x ∈ l.take k, x.2 ≤ now) ∧ wr = w) (fun i _ => n - (intOf i).toNat)
  case atStart => exact ⟨0, by omega, rfl, Lib.hid (fun x hx => by simp at hx), rfl⟩
  case round =>
    obtain ⟨k, hk, rfl, HT, rfl⟩ := hrel
    by_cases hlt : k < n
    · have g1 : k < l.length := by rw [← HN.out]; exact hlt
      obtain ⟨b, o, rfl, hbl, RA⟩ := HRA.out (fun e => by rw [e] at g1; exact absurd g1 (by simp))
      have r1 := (KE_key RA g1).2
      have hw1 : IntKind.i64.wrap ((k : Int) + 1) = (k : Int) + 1 := by simp only [IntKind.wrap_i64]; omega
      have hk1 : (k : Int) < (n : Int) := by omega
      by_cases he : l[k].2 ≤ now
      · have HS := Lib.hid (take_due_succ g1 HT.out he)
        generalize l[k].2 = c at *
        clear RA hbl g1
        go_wp2
        go_roundw
        case rel => exact ⟨k + 1, by omega, by go_num, HS, trivial⟩
        case measure => simp [intOf]; omega
      · have HF := Lib.hid (dueE_at (Nat.le_of_lt g1) HT.out (fun _ => he))
        generalize l[k].2 = c at *
        clear RA hbl g1
        go_wp2
        go_ret
        exact ⟨by rw [HF.out]; rfl, rfl⟩
    · have hk1 : ¬ (k : Int) < (n : Int) := by omega
      have hkn : k = n := by omega
      have HF : Hid (dueE l now = k) := Lib.hid (dueE_at (Nat.le_of_eq (hkn.trans HN.out)) HT.out (fun h => by rw [← HN.out] at h; omega))
      go_wp2
      go_ret
      exact ⟨by rw [HF.out, hkn]; rfl, rfl⟩

theorem take_both_succ {l m : List (List UInt8)} {i : Nat} (h1 : i < l.length) (h2 : i < m.length) (h : l.take i = m.take i) (he : l[i] = m[i]) : l.take (i + 1) = m.take (i + 1) := by
  rw [List.take_succ_eq_append_getElem h1, List.take_succ_eq_append_getElem h2, h, he]
set_option maxRecDepth 100000 in
theorem same12_any (va vb : Value) (la lb : List (List UInt8)) (w : World) (ha : Vec KS w va la) (hb : Vec KS w vb lb) :
    Calls Try.prog 14 #[va, vb] w fun x w' => x = .returned (.bool (decide (la = lb))) ∧ ∃ d, w' = w.drewN d := by
  obtain ⟨pa, ca, rfl, ha1, ha2, _⟩ := ha.len
  obtain ⟨pb, cb, rfl, hb1, hb2, _⟩ := hb.len
  have HRA : Hid (la ≠ [] → ∃ b o, pa = some ⟨b, o, none⟩ ∧ b < w.heap.size ∧ KS.At w b o la) := Lib.hid fun hne => by
    obtain ⟨b, o, cap', e, _, _, h3, h4⟩ := ha.parts hne
    simp only [Value.slice.injEq] at e
    exact ⟨b, o, e.1, h3, h4⟩
  have HRB : Hid (lb ≠ [] → ∃ b o, pb = some ⟨b, o, none⟩ ∧ b < w.heap.size ∧ KS.At w b o lb) := Lib.hid fun hne => by
    obtain ⟨b, o, cap', e, _, _, h3, h4⟩ := hb.parts hne
    simp only [Value.slice.injEq] at e
    exact ⟨b, o, e.1, h3, h4⟩
  by_cases hl : la.length = lb.length
  · obtain ⟨n, hn⟩ : ∃ n, n = la.length := ⟨_, rfl⟩
    have hmx : n ≤ maxLen := by omega
    unfold maxLen at hmx
    have hn2 : n = lb.length := by omega
    rw [← hn, ← hn2]
    have HN := Lib.hid hn
    have HN2 := Lib.hid hn2
    have hz : ((n : Int) != (n : Int)) = false := by simp
    clear ha hb hn hn2 hl ha1 ha2 hb1 hb2
    go_enter Try.func14, Try.ntmps14
    go_wp2_with fail
    go_loopw [5] (fun i wr => ∃ k : Nat, k ≤ n ∧ i = .int .i64 k ∧ Hid (la.take k = lb.take k) ∧ ∃ d, wr = w.drewN d) (fun i _ => n - (intOf i).toNat)
    case atStart => exact ⟨0, by omega, rfl, Lib.hid (by simp), 0, rfl⟩
    case round =>
      obtain ⟨k, hk, rfl, HT, d, rfl⟩ := hrel
      by_cases hlt : k < n
      · have g1 : k < la.length := by rw [← HN.out]; exact hlt
        have g2 : k < lb.length := by rw [← HN2.out]; exact hlt
        obtain ⟨b, o, rfl, hbl, RA⟩ := HRA.out (fun e => by rw [e] at g1; exact absurd g1 (by simp))
        obtain ⟨b', o', rfl, hbl', RB⟩ := HRB.out (fun e => by rw [e] at g2; exact absurd g2 (by simp))
        have r1 := KS_str RA g1
        have r2 := KS_str RB g2
        have hd : decide ((k : Int) < (n : Int)) = true := by simp; omega
        have hw1 : IntKind.i64.wrap ((k : Int) + 1) = (k : Int) + 1 := by simp only [IntKind.wrap_i64]; omega
        have hk1 : (k : Int) < (n : Int) := by omega
        have hq := str_beqK la[k] lb[k]
        by_cases he : la[k] = lb[k]
        · have HS := Lib.hid (take_both_succ g1 g2 HT.out he)
          rw [decide_eq_true he] at hq
          generalize la[k] = A at *
          generalize lb[k] = B at *
          clear RA RB hbl hbl' g1 g2 he
          go_upto_region 6 with (fail)
          go_quiet (fail)
          go_wp2
          go_roundw
          case rel => exact ⟨k + 1, by omega, by go_num, HS, _, rfl⟩
          case measure => simp [intOf]; omega
        · have HF : Hid (decide (la = lb) = false) := Lib.hid (decide_eq_false (fun e => he (by subst e; rfl)))
          rw [decide_eq_false he] at hq
          generalize la[k] = A at *
          generalize lb[k] = B at *
          clear RA RB hbl hbl' g1 g2 he
          go_upto_region 6 with (fail)
          go_quiet (fail)
          go_wp2
          go_ret
          exact ⟨by rw [HF.out]; rfl, _, World.drewN_drewN _ _ _⟩
      · have hk1 : ¬ (k : Int) < (n : Int) := by omega
        have hkn : k = n := by omega
        have HF : Hid (decide (la = lb) = true) := Lib.hid (decide_eq_true (by have := HT.out; rw [hkn] at this; rwa [List.take_of_length_le (Nat.le_of_eq HN.out.symm), List.take_of_length_le (Nat.le_of_eq HN2.out.symm)] at this))
        go_wp2
        go_ret
        exact ⟨by rw [HF.out]; rfl, _, rfl⟩
  · have HF : Hid (decide (la = lb) = false) := Lib.hid (decide_eq_false (fun e => hl (by rw [e])))
    have hz : ((la.length : Int) != (lb.length : Int)) = true := by simp; omega
    clear ha hb
    go_enter Try.func14, Try.ntmps14
    go_wp2
    go_ret
    exact ⟨by rw [HF.out]; rfl, 0, rfl⟩
end Go.Proofs.Ytiegeejbnplhdaa
