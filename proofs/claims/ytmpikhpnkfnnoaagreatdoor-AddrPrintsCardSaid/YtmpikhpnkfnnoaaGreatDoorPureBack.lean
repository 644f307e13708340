/-
  The text of a good address is read back.
-/
import Derived.Test.YtmpikhpnkfnnoaaGreatDoorPureRo
import Derived.Test.YtmpikhpnkfnnoaaGreatDoorPureParse
import Derived.Test.YtmpikhpnkfnnoaaGreatDoorRprint6
import Derived.Test.YtmpikhpnkfnnoaaGreatDoorPmac
namespace Go.Proofs.YtmpikhpnkfnnoaaGreatDoor
open Go.RowKit
set_option linter.unusedVariables false

theorem two_back (a b : UInt8) : putL (a.toNat * 256 + b.toNat) 2 = [a, b] := by
  have h1 := a.toNat_lt; have h2 := b.toNat_lt
  simp only [putL, List.cons.injEq, and_true]
  constructor
  · apply UInt8.toNat_inj.1; rw [UInt8.toNat_ofNat']; omega
  · apply UInt8.toNat_inj.1; rw [UInt8.toNat_ofNat']; omega
theorem words_back (l : List UInt8) (hl : l.length = 16) : (wordsV l).flatMap (fun n => putL n 2) = l := by
  obtain ⟨b0, b1, b2, b3, b4, b5, b6, b7, b8, b9, ba, bb, bc, bd, be, bf, rfl⟩ := list16 hl
  have e : wordsV [b0, b1, b2, b3, b4, b5, b6, b7, b8, b9, ba, bb, bc, bd, be, bf] = [b0.toNat * 256 + b1.toNat, b2.toNat * 256 + b3.toNat, b4.toNat * 256 + b5.toNat, b6.toNat * 256 + b7.toNat, b8.toNat * 256 + b9.toNat, ba.toNat * 256 + bb.toNat, bc.toNat * 256 + bd.toNat, be.toNat * 256 + bf.toNat] := rfl
  rw [e]
  simp only [List.flatMap_cons, List.flatMap_nil, two_back]
  rfl
theorem rough_prt6 (l : List UInt8) (hl : l.length = 16) : roughV (prt6 l) = l := by
  have hw := wordsV_length l
  have hle := wordsV_lt l
  unfold prt6
  split
  · rw [jn16_D, rough_all (wordsV l) hw hle, words_back l hl]
  · have hg := (gapK_le (wordsV l) 8).2.2
    have := rough_gap (wordsV l) hw hle (gapK (wordsV l) 8).1 (gapK (wordsV l) 8).2.1 hg (gap_zero (wordsV l) hw)
    rw [words_back l hl] at this
    exact this
theorem one_back (a : UInt8) : putL a.toNat 1 = [a] := by
  have h1 := a.toNat_lt
  simp only [putL, List.cons.injEq, and_true]
  apply UInt8.toNat_inj.1; rw [UInt8.toNat_ofNat']; omega
theorem ones_back : ∀ l : List UInt8, (l.map (·.toNat)).flatMap (fun n => putL n 1) = l
  | [] => rfl
  | a :: r => by rw [List.map_cons, List.flatMap_cons, ones_back r, one_back]; rfl
theorem rough_prt4 (l : List UInt8) (hl : l.length = 16) : roughV (dotP l 4) = l.take 4 := by
  unfold dotP jn10
  rw [rough_dots _ (by simp; omega) (by
    intro n hn
    obtain ⟨b, _, rfl⟩ := List.mem_map.1 hn
    have := b.toNat_lt
    omega), ones_back]
theorem num16_len (n : Nat) (h : n ≤ 65535) : (D16 n).length ≤ 4 := by
  have key : ∀ (f n : Nat), n < 16 ^ (f + 1) → (digs 16 (f + 2) n).length ≤ f + 1 := by
    intro f
    induction f with
    | zero => intro n h; have h' : n < 16 := by simpa using h
              simp [digs, h']
    | succ f ih =>
      intro n h
      unfold digs
      split
      · simp
      · have h1 : n / 16 < 16 ^ (f + 1) := by rw [Nat.div_lt_iff_lt_mul (by omega), ← Nat.pow_succ]; exact h
        have := ih (n / 16) h1
        simp; omega
  exact key 3 n (by omega)
theorem jn4_len : ∀ ws : List Nat, (∀ n ∈ ws, n ≤ 65535) → (jnD D16 ws).length + 1 ≤ 5 * ws.length + 1 ∧ (ws ≠ [] → (jnD D16 ws).length + 1 ≤ 5 * ws.length)
  | [], _ => by simp [jnD, Lib.join_nil]
  | [a], h => by rw [jnD_one]; have := num16_len a (h a (by simp)); simp; omega
  | a :: b :: r, h => by
    have ih := (jn4_len (b :: r) (fun n hn => h n (by simp at hn ⊢; exact .inr hn))).2 (by simp)
    have := num16_len a (h a (by simp))
    rw [jnD_cons2]
    simp at ih ⊢
    omega
theorem prt6_len (l : List UInt8) : (prt6 l).length ≤ 39 := by
  have hw := wordsV_length l
  have hle := wordsV_lt l
  unfold prt6
  split
  · have := (jn4_len (wordsV l) hle).2 (by intro e; rw [e] at hw; simp at hw)
    rw [jn16_D]
    omega
  · rename_i h2
    have hg := (gapK_le (wordsV l) 8).2.2
    have h3 := (jn4_len ((wordsV l).take (gapK (wordsV l) 8).1) (fun n hn => hle n (List.mem_of_mem_take hn))).1
    have h4 := (jn4_len ((wordsV l).drop ((gapK (wordsV l) 8).1 + (gapK (wordsV l) 8).2.1)) (fun n hn => hle n (List.mem_of_mem_drop hn))).1
    rw [List.length_take] at h3
    rw [List.length_drop] at h4
    rw [jn16_D, jn16_D, List.length_append, List.length_append]
    simp only [List.length_cons, List.length_nil]
    omega
theorem parse_prt (v : Bool) (L : List UInt8) (hL : L.length = 16) (hg : goodV v L = true) : parseV (prtV v L) = some (v, L) := by
  cases v with
  | true =>
    have h1 : prtV true L = prt6 L := rfl
    have h2 := prt6_len L
    have h3 := rough_prt6 L hL
    unfold parseV
    rw [h1, h3, if_neg (by omega), if_pos (by omega)]
    have e : decide (L.length = 16) = true := by simp [hL]
    have e2 : readV L = L := by unfold readV; rw [hL]; simp
    rw [e, e2, h1, if_pos rfl]
  | false =>
    have h1 : prtV false L = dotP L 4 := rfl
    have h2 := dotP_len L 4
    have h3 := rough_prt4 L hL
    have hlen : (L.take 4).length = 4 := by simp; omega
    have hgd : L = ownV false L := by
      unfold goodV at hg
      rw [Bool.false_or, decide_eq_true_eq] at hg
      exact hg
    have e2 : readV (L.take 4) = L := by
      unfold readV
      rw [hlen]
      conv => rhs; rw [hgd]
      simp [ownV, ownK, hL]
    unfold parseV
    rw [h1, h3, if_neg (by omega), if_pos (by omega)]
    have e : decide ((L.take 4).length = 16) = false := by rw [hlen]; rfl
    rw [e, e2, h1, if_pos rfl]
theorem own_good (v : Bool) (l : List UInt8) (hl : l.length = 16) : goodV v (ownV v l) = true := by
  cases v with
  | true => rfl
  | false =>
    unfold goodV
    rw [Bool.false_or, decide_eq_true_eq]
    have hd : l.drop 16 = [] := List.drop_of_length_le (by omega)
    have h4 : (l.take 4).length = 4 := by simp; omega
    have e1 : ∀ x : List UInt8, ownV false x = x.take 4 ++ (List.replicate 12 0 ++ x.drop 16) := fun x => rfl
    have e2 : ownV false l = l.take 4 ++ List.replicate 12 0 := by rw [e1, hd, List.append_nil]
    rw [e1 (ownV false l), e2, List.take_left' h4, List.drop_of_length_le (by simp; omega), List.append_nil]

/-! The text of an address of Ethernet is read back, too. -/
theorem rep_plain : ∀ (k : Nat) (s : List UInt8), (∀ x ∈ s, x ≠ 58) → Lib.replaceK [58] [] k s = s
  | 0, s, _ => rfl
  | k + 1, s, h => by
    rw [Lib.replaceK, if_pos]
    have := no_colon s h
    rw [Lib.index_one, this]; rfl
theorem rep_hit (k : Nat) (d r : List UInt8) (h : ∀ x ∈ d, x ≠ 58) : Lib.replaceK [58] [] (k + 1) (d ++ 58 :: r) = d ++ Lib.replaceK [58] [] k r := by
  have hi : Lib.index (d ++ 58 :: r) [58] = (d.length : Int) := by
    rw [Lib.index_one]
    induction d with
    | nil => simp [Lib.indexByte]
    | cons x d ih =>
      have hx : ¬ (x == 58) = true := by simpa using h x (by simp)
      have ih' := ih (fun y hy => h y (by simp [hy]))
      have hn : ¬ ((d.length : Int) == -1) = true := by simp
      simp only [List.cons_append, Lib.indexByte]
      rw [if_neg hx, ih', if_neg hn]
      simp
  rw [Lib.replaceK_hit [58] [] k _ d.length hi]
  simp
theorem count_mac : ∀ (ds : List (List UInt8)), (∀ d ∈ ds, ∀ x ∈ d, x ≠ 58) → ∀ k, ds.length ≤ k + 1 → Lib.replaceK [58] [] k (Lib.join ds [58]) = ds.flatten
  | [], _, k, _ => by rw [Lib.join_nil]; exact rep_plain k [] (by simp)
  | [d], h, k, _ => by rw [Lib.join_one, rep_plain k d (h d (by simp))]; simp
  | d :: e :: r, h, k, hk => by
    have e1 : Lib.join (d :: e :: r) [58] = d ++ (58 :: Lib.join (e :: r) [58]) := by simp [Lib.join, List.intercalate]
    obtain ⟨k', rfl⟩ : ∃ k', k = k' + 1 := ⟨k - 1, by simp at hk; omega⟩
    rw [e1, rep_hit k' d _ (h d (by simp)), count_mac (e :: r) (fun d' hd' => h d' (by simp at hd' ⊢; exact .inr hd')) k' (by simp at hk ⊢; omega)]
    simp
theorem hex_no58 (b : UInt8) : ∀ x ∈ hexL [b], x ≠ 58 := by
  intro x hx
  have h1 := b.toNat_lt
  simp [hexL] at hx
  rcases hx with rfl | rfl
  · exact digL_ne58 _ (by omega)
  · exact digL_ne58 _ (by omega)
theorem cnt_join : ∀ (ds : List (List UInt8)), (∀ d ∈ ds, ∀ x ∈ d, x ≠ 58) → Lib.count (Lib.join ds [58]) [58] + 1 = max 1 ds.length
  | [], _ => by rw [Lib.join_nil]; rfl
  | [d], h => by
    rw [Lib.join_one]
    have : ∀ d : List UInt8, (∀ x ∈ d, x ≠ 58) → Lib.count d [58] = 0 := by
      intro d
      induction d with
      | nil => intro _; rfl
      | cons x d ih => intro h; rw [Lib.count_cons_ne x 58 d (h x (by simp)), ih (fun y hy => h y (by simp [hy]))]
    rw [this d (h d (by simp))]; simp
  | d :: e :: r, h => by
    have e1 : Lib.join (d :: e :: r) [58] = d ++ (58 :: Lib.join (e :: r) [58]) := by simp [Lib.join, List.intercalate]
    have ih := cnt_join (e :: r) (fun d' hd' => h d' (by simp at hd' ⊢; exact .inr hd'))
    have hc : ∀ (d t : List UInt8), (∀ x ∈ d, x ≠ 58) → Lib.count (d ++ (58 :: t)) [58] = 1 + Lib.count t [58] := by
      intro d t
      induction d with
      | nil => intro _; rw [List.nil_append, Lib.count_cons_eq]
      | cons x d ih => intro h; rw [List.cons_append, Lib.count_cons_ne x 58 _ (h x (by simp)), ih (fun y hy => h y (by simp [hy]))]
    rw [e1, hc d _ (h d (by simp))]
    simp at ih ⊢
    omega
theorem rep_mac (m : List UInt8) (hm : m.length = 6) : repV (macT m) = hexL m := by
  have hno : ∀ d ∈ m.map (fun b => hexL [b]), ∀ x ∈ d, x ≠ 58 := by
    intro d hd
    obtain ⟨b, _, rfl⟩ := List.mem_map.1 hd
    exact hex_no58 b
  unfold repV Lib.replaceAll Lib.replace
  rw [if_neg (by decide)]
  have hk : Lib.replaceNum (macT m) [58] (-1) = Lib.count (macT m) [58] := by unfold Lib.replaceNum; rw [if_pos (.inl (by omega))]
  have hcn := cnt_join (m.map fun b => hexL [b]) hno
  rw [hk]
  unfold macT at hcn ⊢
  rw [count_mac _ hno _ (by rw [hcn]; omega)]
  unfold hexL
  rw [List.flatMap_def]
  congr 1
theorem mac_len (m : List UInt8) (hm : m.length = 6) : (macT m).length = 17 := by
  match m, hm with
  | [a, b, c, d, e, f], _ => simp [macT, hexL, Lib.join, List.intercalate]
theorem pm_prt (m : List UInt8) (hm : m.length = 6) : pmV (macT m) = some m := by
  have e : pm6 m = m := by unfold pm6; rw [hm, List.take_of_length_le (by omega)]; simp
  unfold pmV
  rw [if_pos (mac_len m hm), rep_mac m hm, unhexV_hexL]
  simp only
  rw [e, if_pos rfl]
end Go.Proofs.YtmpikhpnkfnnoaaGreatDoor
