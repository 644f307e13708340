/-
  The text of a set is read back, and what is read has that text: plain mathematics; and the contracts of stage 11's texts over what is held.
-/
import Derived.Test.YtalnfjnfcloonaaGreatDoorSeU
import Derived.Test.YtalnfjnfcloonaaGreatDoorMg40
namespace Go.Proofs.YtalnfjnfcloonaaGreatDoor
open Go.RowKit
set_option linter.unusedVariables false
set_option linter.unusedSimpArgs false

theorem digL_ne44 (n : Nat) (h : n < 16) : digL n ≠ 44 := by
  have : ∀ x : Fin 16, digL x.val ≠ 44 := by decide +kernel
  exact this ⟨n, h⟩
theorem digs_no44 (b : Nat) (hb : b ≤ 16) (h0 : 0 < b) : ∀ f n, (44 : UInt8) ∉ digs b f n
  | 0, n => by simp [digs]
  | f + 1, n => by
    unfold digs
    split
    · rename_i h
      simp only [List.mem_singleton]
      exact fun e => digL_ne44 n (by omega) e.symm
    · rw [List.mem_append, List.mem_singleton]
      rintro (h | h)
      · exact digs_no44 b hb h0 f _ h
      · exact digL_ne44 _ (by have := Nat.mod_lt n h0; omega) h.symm
theorem join_no44 (c : UInt8) (hc : c ≠ 44) : ∀ ds : List (List UInt8), (∀ d ∈ ds, (44 : UInt8) ∉ d) → (44 : UInt8) ∉ Lib.join ds [c]
  | [], _ => by simp [Lib.join_nil]
  | [a], h => by rw [Lib.join_one]; exact h a (by simp)
  | a :: b :: r, h => by
    rw [show Lib.join (a :: b :: r) [c] = a ++ (c :: Lib.join (b :: r) [c]) by simp [Lib.join, List.intercalate]]
    rw [List.mem_append, List.mem_cons]
    rintro (h1 | h1 | h1)
    · exact h a (by simp) h1
    · exact hc h1.symm
    · exact join_no44 c hc (b :: r) (fun d hd => h d (List.mem_cons_of_mem _ hd)) h1
theorem prtB_no44 (a : AD) : (44 : UInt8) ∉ prtB a := by
  obtain ⟨v, l⟩ := a
  have h16 : ∀ ws : List Nat, (44 : UInt8) ∉ jn16 ws := fun ws => join_no44 58 (by decide) _ (fun d hd => by
    obtain ⟨n, _, rfl⟩ := List.mem_map.1 hd
    exact digs_no44 16 (by omega) (by omega) 5 n)
  cases v with
  | true =>
    show (44 : UInt8) ∉ prt6 l
    unfold prt6
    split
    · exact h16 _
    · rw [List.mem_append, List.mem_append]
      rintro (h | h | h)
      · exact h16 _ h
      · simp at h
      · exact h16 _ h
  | false =>
    show (44 : UInt8) ∉ dotP l 4
    unfold dotP jn10
    exact join_no44 46 (by decide) _ (fun d hd => by
      obtain ⟨n, _, rfl⟩ := List.mem_map.1 hd
      exact digs_no44 10 (by omega) (by omega) 5 n)
theorem parseV_prtB {a : AD} (ho : adOk a) (hg : goodB a = true) : parseV (prtB a) = some a := by
  rw [← prtB_eq]
  exact parse_prt a.1 a.2 ho hg
theorem prtB_parseV {p : List UInt8} {a : AD} (h : parseV p = some a) : prtB a = p := by
  rw [← prtB_eq]
  exact (parseV_some (v := a.1) (l := a.2) h).2.1
theorem prtB_ne {a : AD} (ho : adOk a) (hg : goodB a = true) : prtB a ≠ [] := by
  intro e
  have h := parseV_prtB ho hg
  rw [e] at h
  have : (parseV []).isSome = false := by decide +kernel
  rw [h] at this
  cases this
theorem collP_prt : ∀ {l : List AD}, (∀ a ∈ l, adOk a) → (∀ a ∈ l, goodB a = true) → collP (l.map prtB) = some l
  | [], _, _ => rfl
  | a :: r, ho, hg => by
    rw [List.map_cons]
    unfold collP
    rw [parseV_prtB (ho a (by simp)) (hg a (by simp)), collP_prt (fun x hx => ho x (List.mem_cons_of_mem _ hx)) (fun x hx => hg x (List.mem_cons_of_mem _ hx))]
theorem prt_collP : ∀ {ps : List (List UInt8)} {l : List AD}, collP ps = some l → l.map prtB = ps
  | [], l, h => by cases h; rfl
  | p :: ps, l, h => by
    unfold collP at h
    cases hp : parseV p with
    | none => rw [hp] at h; cases h
    | some a =>
      cases hc : collP ps with
      | none => rw [hp, hc] at h; cases h
      | some l' =>
        rw [hp, hc] at h; cases h
        rw [List.map_cons, prt_collP hc, prtB_parseV hp]
theorem joinA_jnC : ∀ l : List AD, joinA l = jnC (l.map prtB)
  | [] => rfl
  | [a] => rfl
  | a :: b :: r => by
    have := joinA_jnC (b :: r)
    show prtB a ++ (44 :: joinA (b :: r)) = _
    rw [this]
    rfl
theorem parseV_dash : (parseV [45]).isSome = false := by decide +kernel
/-- A set's text is read as the set. -/
theorem parseL_prt {l : List AD} (ho : ∀ a ∈ l, adOk a) (hs : Sorted ltA l) (hg : ∀ a ∈ l, goodB a = true) : parseL (prtL l) = some l := by
  unfold prtL
  by_cases h0 : l = []
  · rw [if_pos h0, h0]; rfl
  · rw [if_neg h0, joinA_jnC]
    have hsp : spl (jnC (l.map prtB)) = l.map prtB := spl_jnC (by simpa using h0) (fun p hp => by
      obtain ⟨a, _, rfl⟩ := List.mem_map.1 hp
      exact prtB_no44 a)
    have hco := collP_prt ho hg
    unfold parseL
    have h45 : jnC (l.map prtB) ≠ [45] := by
      intro e
      rw [e] at hsp
      rw [← hsp] at hco
      have h1 : spl [45] = [[45]] := rfl
      rw [h1] at hco
      unfold collP at hco
      have hd := parseV_dash
      cases hp : parseV [45] with
      | none => rw [hp] at hco; cases hco
      | some a => rw [hp] at hd; cases hd
    rw [if_neg h45, hsp, hco]
    simp only [(isSet_iff l).2 ⟨hs, hg⟩, if_true]
/-- What is read of a text is a set, and has that text. -/
theorem parseL_some {s : List UInt8} {l : List AD} (h : parseL s = some l) : prtL l = s ∧ ofA l = l ∧ (∀ a ∈ l, adOk a) ∧ l.length ≤ s.length + 1 := by
  unfold parseL at h
  by_cases h45 : s = [45]
  · rw [if_pos h45] at h
    cases h
    exact ⟨by rw [h45]; rfl, rfl, fun a ha => (by cases ha), by simp⟩
  · rw [if_neg h45] at h
    cases hc : collP (spl s) with
    | none => rw [hc] at h; cases h
    | some c =>
      rw [hc] at h
      simp only at h
      by_cases hi : isSet c = true
      · rw [if_pos hi] at h
        cases h
        have hm := prt_collP hc
        have hk := collP_ok hc
        have hn : l ≠ [] := by
          intro e
          rw [e] at hm
          exact spl_ne s hm.symm
        refine ⟨?_, ?_, hk.1, by rw [hk.2]; exact spl_length s⟩
        · unfold prtL
          rw [if_neg hn, joinA_jnC, hm, jnC_spl]
        · have := (decide_eq_true_iff).1 (show decide (l = ofA l) = true from hi)
          exact this.symm
      · rw [if_neg hi] at h; cases h

theorem joinA_len : ∀ l : List AD, (joinA l).length ≤ 40 * l.length
  | [] => by simp [joinA]
  | [a] => by have := prtB_len a; simp [joinA]; omega
  | a :: b :: r => by
    have h1 := joinA_len (b :: r)
    have h2 := prtB_len a
    show (prtB a ++ (44 :: joinA (b :: r))).length ≤ _
    simp only [List.length_append, List.length_cons] at h1 ⊢
    omega
theorem prtL_len {l : List AD} (h : l.length ≤ 1000) : (prtL l).length ≤ 1000000 := by
  unfold prtL
  split
  · simp
  · have := joinA_len l; omega

section
variable {w W : World} {B : List (Nat × AD)} {L : List (Value × List AD)}
theorem h_addrs8 (l s : List AD) (v : Value) (he : l.take 8 = s) (h : Hid (Hold w W B L)) (hm : (v, l) ∈ L) : Calls Tryz.prog 6 #[v, .int .i64 8] W fun x w' => ∃ p c, x = .returned (.slice p s.length c) ∧ Hid (Hold w w' B ((.slice p s.length c, s) :: L)) := by
  subst he
  exact (laddrs_own v l 8 (by omega) W (h.out.2.2.2 _ hm).1).mono fun x w' ⟨v', hx, hb, ho⟩ => by
    obtain ⟨p, c, e, hh⟩ := h.out.own hb ho (fun a ha => (h.out.2.2.2 _ hm).1.ok a (List.mem_of_mem_take ha))
    exact ⟨p, c, by rw [hx, e], hh⟩
theorem h_parse (s : List UInt8) (l : List AD) (hs : s.length ≤ 1000000) (hp : parseL s = some l) (h : Hid (Hold w W B L)) : Calls Tryz.prog 7 #[.string (Str s)] W fun x w' => ∃ p c, x = .returned (.tuple #[.slice p l.length c, .int .i64 0]) ∧ Hid (Hold w w' B ((.slice p l.length c, l) :: L)) := by
  refine (sparse_any s hs W h.out.2.1).mono fun x w' hx => ?_
  rw [hp] at hx
  obtain ⟨hb, v', e, ho⟩ := hx
  obtain ⟨p, c, e2, hh⟩ := h.out.own hb ho (parseL_some hp).2.2.1
  exact ⟨p, c, by rw [e, e2], hh⟩
theorem h_parse_none (s : List UInt8) (hs : s.length ≤ 1000000) (hp : parseL s = none) (h : Hid (Hold w W B L)) : Calls Tryz.prog 7 #[.string (Str s)] W fun x w' => x = .returned (.tuple #[.slice none 0 0, .int .i64 2]) ∧ Hid (Hold w w' B L) := by
  refine (sparse_any s hs W h.out.2.1).mono fun x w' hx => ?_
  rw [hp] at hx
  exact ⟨hx.2, Lib.hid (h.out.below hx.1)⟩
theorem h_rprint (l : List AD) (t : List UInt8) (v : Value) (ht : prtL l = t) (h1 : l.length ≤ 1000) (h : Hid (Hold w W B L)) (hl : (v, l) ∈ L) : Calls Tryz.prog 8 #[v] W fun x w' => x = .returned (.string (Str t)) ∧ Hid (Hold w w' B L) := by
  subst ht
  exact (rprint11_any v l W (h.out.2.2.2 _ hl).1 h1 (fun a _ => by have := prtB_len a; omega)).mono fun x w' ⟨hx, hb⟩ => ⟨hx, Lib.hid (h.out.below hb)⟩
theorem h_print (l : List AD) (t : List UInt8) (v : Value) (ht : prtL l = t) (h1 : l.length ≤ 1000) (hn : ∀ a ∈ l, prtB a ≠ []) (h : Hid (Hold w W B L)) (hl : (v, l) ∈ L) : Calls Tryz.prog 9 #[v] W fun x w' => x = .returned (.string (Str t)) ∧ Hid (Hold w w' B L) := by
  subst ht
  exact (sprint_any v l W (h.out.2.2.2 _ hl).1 h1 hn h.out.2.1).mono fun x w' ⟨hx, hb⟩ => ⟨hx, Lib.hid (h.out.below hb)⟩
end
end Go.Proofs.YtalnfjnfcloonaaGreatDoor
