/-
  The contract of the document's Print of layer 11.
-/
import Derived.Test.YtalnfjnfcloonaaGreatDoorMg21
import Derived.Test.YtalnfjnfcloonaaGreatDoorMg35
import Derived.Test.YtalnfjnfcloonaaGreatDoorRprint6
namespace Go.Proofs.YtalnfjnfcloonaaGreatDoor
open Go.RowKit
set_option linter.unusedVariables false
set_option linter.unusedSimpArgs false
attribute [local go_sem ↓] ld_addr
attribute [local go_sem] ldr_addr row?_drewN_eq row?_drew_eq


def prtB (a : AD) : List UInt8 := if a.1 then prt6 a.2 else dotP a.2 4
theorem rprintB_any (a : AD) (ho : adOk a) (w : World) : Calls Tryz.prog 16 #[.agg (adC a).toArray] w fun x w' => x = .returned (.string (Str (prtB a))) ∧ Below w.heap.size w w' := by
  obtain ⟨v, l⟩ := a
  cases v
  · exact rprint4_any l ho w
  · exact rprint6_any l ho w
/-- The text of addresses, one by one. -/
def joinA : List AD → List UInt8
  | [] => []
  | [a] => prtB a
  | a :: b :: r => prtB a ++ (44 :: joinA (b :: r))
def prtL (l : List AD) : List UInt8 := if l = [] then [45] else joinA l
theorem joinA_snoc : ∀ (l : List AD) (a : AD), joinA (l ++ [a]) = if l = [] then prtB a else joinA l ++ (44 :: prtB a)
  | [], a => rfl
  | [b], a => by rw [if_neg (by simp)]; rfl
  | b :: c :: r, a => by
    rw [if_neg (by simp)]
    have ih := joinA_snoc (c :: r) a
    rw [if_neg (by simp)] at ih
    show prtB b ++ (44 :: joinA ((c :: r) ++ [a])) = (prtB b ++ (44 :: joinA (c :: r))) ++ (44 :: prtB a)
    rw [ih]; simp
theorem joinA_take {l : List AD} {k : Nat} (h : k < l.length) : joinA (l.take (k + 1)) = if k = 0 then prtB l[k] else joinA (l.take k) ++ (44 :: prtB l[k]) := by
  rw [List.take_succ_eq_append_getElem h, joinA_snoc]
  by_cases e : k = 0
  · subst e; simp
  · rw [if_neg e, if_neg (by intro h2; have := congrArg List.length h2; rw [List.length_take, List.length_nil] at this; omega)]
theorem joinA_length {l : List AD} {n : Nat} (h : ∀ a ∈ l, (prtB a).length ≤ n) : (joinA l).length ≤ l.length * (n + 1) := by
  induction l using joinA.induct with
  | case1 => simp [joinA]
  | case2 a => have := h a (by simp); simp [joinA]; omega
  | case3 a b r ih =>
    have h1 := h a (by simp)
    have h2 := ih (fun x hx => h x (by simp only [List.mem_cons] at hx ⊢; rcases hx with hx | hx; exact Or.inr (Or.inl hx); exact Or.inr (Or.inr hx)))
    simp only [joinA, List.length_append, List.length_cons] at h2 ⊢
    have e : (r.length + 1 + 1) * (n + 1) = (r.length + 1) * (n + 1) + (n + 1) := by rw [Nat.add_mul (r.length + 1) 1, Nat.one_mul]
    omega

set_option maxRecDepth 100000 in
set_option maxHeartbeats 4000000 in
theorem rprint11_any (v : Value) (l : List AD) (w : World) (ha : Ads w v l) (hll : l.length ≤ 1000) (hpl : ∀ a ∈ l, (prtB a).length ≤ 1000) : Calls Tryz.prog 8 #[v] w fun x w' => x = .returned (.string (Str (prtL l))) ∧ Below w.heap.size w w' := by
  obtain ⟨p, cap, rfl, h1, h2⟩ := ha.len
  have HRA : Hid (l ≠ [] → ∃ b o, p = some ⟨b, o, none⟩ ∧ b < w.heap.size ∧ AdsAt w b o l) := Lib.hid fun hne => by
    obtain ⟨b, o, cap', e, _, _, h3, h4⟩ := ha.parts hne
    simp only [Value.slice.injEq] at e
    exact ⟨b, o, e.1, h3, h4⟩
  have OA := Lib.hid ha.ok
  have HPL := Lib.hid hpl
  obtain ⟨n, hn⟩ : ∃ n, n = l.length := ⟨_, rfl⟩
  have hmx : n ≤ 1000 := by omega
  rw [← hn]
  have HN := Lib.hid hn
  have HNL := Lib.hid hmx
  by_cases h0 : n = 0
  · have e : l = [] := List.eq_nil_of_length_eq_zero (by omega)
    have HD := Lib.hid (show prtL l = [45] by rw [e]; rfl)
    subst h0
    clear ha hn h1 h2 hll e hpl
    go_enter Tryz.func8, Tryz.ntmps8
    go_wp2
    go_ret
    exact ⟨by rw [HD.out]; rfl, Below.refl _ _⟩
  have HD := Lib.hid (show prtL l = joinA l by unfold prtL; rw [if_neg (by intro e; rw [e] at hn; simp at hn; omega)])
  have t0 : ((n : Int) == 0) = false := by simp; omega
  clear ha hn h1 h2 hll hpl h0
  go_enter Tryz.func8, Tryz.ntmps8
  go_wp2_with fail
  go_loopw [3, 4] (fun u i wr => ∃ k : Nat, k ≤ n ∧ i = .int .i64 k ∧ u = .string (Str (joinA (l.take k))) ∧ Hid (Below w.heap.size w wr)) (fun _ i _ => n - (intOf i).toNat)
  case atStart => exact ⟨0, by omega, rfl, rfl, Lib.hid (Below.refl _ _)⟩
  case round =>
    obtain ⟨k, hk, rfl, rfl, HB⟩ := hrel
    by_cases hlt : k < n
    · have g1 : k < l.length := by rw [← HN.out]; exact hlt
      obtain ⟨b, o, rfl, hbl, RA⟩ := HRA.out (fun e => by rw [e] at g1; exact absurd g1 (by simp))
      have r1 := row?_below (RA k g1) hbl HB.out
      have hd : decide ((k : Int) < (n : Int)) = true := by simp; omega
      have hw1 : IntKind.i64.wrap ((k : Int) + 1) = (k : Int) + 1 := by simp only [IntKind.wrap_i64]; omega
      have hk1 : (k : Int) < (n : Int) := by omega
      have HS := Lib.hid (joinA_take g1)
      have hoc := OA.out _ (List.getElem_mem g1)
      have hlc := HPL.out _ (List.getElem_mem g1)
      have hlj : (joinA (l.take k)).length ≤ 1001000 := by
        have h5 := joinA_length (l := l.take k) (n := 1000) (fun a ha => HPL.out a (List.mem_of_mem_take ha))
        rw [List.length_take] at h5
        have h6 := HNL.out
        have h7 : (min k l.length) * 1001 ≤ 1000 * 1001 := Nat.mul_le_mul_right _ (by omega)
        omega
      generalize l[k] = c at r1 HS hoc hlc
      have HPR := Lib.hid (fun W => rprintB_any c hoc W)
      generalize prtB c = P at HPR HS hlc
      clear g1 RA hbl hoc
      by_cases hk0 : k = 0
      · have HS2 := Lib.hid (show joinA (l.take (k + 1)) = P by rw [HS.out, if_pos hk0])
        have hbl0 : Str (joinA (l.take k)) = Str [] := by rw [hk0]; simp [joinA]
        rw [hbl0]
        have t1 : decide ((k : Int) > 0) = false := decide_eq_false (by omega)
        have t2 : ¬ (0 : Int) < (k : Int) := by omega
        have c2 := run_cat (P := Tryz.prog) [] P (by simp; omega)
        clear hlj HS hk0 hbl0
        go_wp2_with (go_at_call 16; (with_reducible refine (HPR.out _).mono ?_); rintro x w2 ⟨rfl, hb⟩; have H2 := Lib.hid (bstep HB.out hb); clear hb r1)
        go_roundw
        case rel => exact ⟨k + 1, by omega, by go_num, by first | (rw [HS2.out]; done) | (rw [HS2.out]; simp; done), H2⟩
        case measure => simp [intOf]; omega
      · have t1 : decide ((k : Int) > 0) = true := decide_eq_true (by omega)
        have t2 : (0 : Int) < (k : Int) := by omega
        have HS2 := Lib.hid (show joinA (l.take (k + 1)) = joinA (l.take k) ++ (44 :: P) by rw [HS.out, if_neg hk0])
        generalize joinA (l.take k) = Jk at hlj HS2 ⊢
        have c1 := run_cat (P := Tryz.prog) Jk [44] (by simp; omega)
        rw [show Str [44] = ⟨#[44]⟩ from rfl] at c1
        have c2 := run_cat (P := Tryz.prog) (Jk ++ [44]) P (by simp; omega)
        clear hlj HS
        go_wp2_with (go_at_call 16; (with_reducible refine (HPR.out _).mono ?_); rintro x w2 ⟨rfl, hb⟩; have H2 := Lib.hid (bstep HB.out hb); clear hb r1)
        go_roundw
        case rel => exact ⟨k + 1, by omega, by go_num, by first | (rw [HS2.out]; done) | (rw [HS2.out]; simp; done), H2⟩
        case measure => simp [intOf]; omega
    · have hd : ¬ (k : Int) < (n : Int) := by omega
      have HT := Lib.hid (show l.take k = l from List.take_of_length_le (by rw [← HN.out]; omega))
      clear hlt
      go_wp2
      go_ret
      exact ⟨by rw [HD.out]; first | (rw [HT.out]; done) | (rw [HT.out]; rfl), HB.out⟩

end Go.Proofs.YtalnfjnfcloonaaGreatDoor
