/-
  Texts joined: PureParse, OctUnb, Pmac, PureBack, SeK, SeQ.
-/
import Derived.Test.YtalnfjnfcloonaaGreatDoorParse
import Derived.Test.YtalnfjnfcloonaaGreatDoorMg11
import Derived.Test.YtalnfjnfcloonaaGreatDoorMg26
import Derived.Test.YtalnfjnfcloonaaGreatDoorMg31
import Derived.Test.YtalnfjnfcloonaaGreatDoorMg34
import Derived.Lib.LazyBuf
import Derived.Lib.Replace
import Derived.Test.YtalnfjnfcloonaaGreatDoorMg38
import Derived.Test.YtalnfjnfcloonaaGreatDoorRprint6
import Derived.Test.YtalnfjnfcloonaaGreatDoorSrD
import Derived.Test.YtalnfjnfcloonaaGreatDoorMg22
import Derived.Test.YtalnfjnfcloonaaGreatDoorBase
import Derived.BigQuiet
import Derived.Below
/-
  What is read of a text is printed so, and is good.
-/
namespace Go.Proofs.YtalnfjnfcloonaaGreatDoor
open Go.RowKit
set_option linter.unusedVariables false

theorem readV_good (r : List UInt8) (h : r.length = 4 ∨ r.length = 16) : goodV (decide (r.length = 16)) (readV r) = true := by
  rcases h with h | h
  · have e : decide (r.length = 16) = false := by simp [h]
    rw [e]
    unfold goodV
    rw [Bool.false_or, decide_eq_true_eq]
    simp only [ownV, ownK, readV, Bool.false_eq_true, if_false, h]
    rw [List.drop_of_length_le (by simp; omega), List.append_nil, List.take_left' h]
  · simp [goodV, h]
theorem parseV_some {s : List UInt8} {v : Bool} {l : List UInt8} (h : parseV s = some (v, l)) : l.length = 16 ∧ prtV v l = s ∧ goodV v l = true := by
  unfold parseV at h
  split at h
  · simp at h
  · split at h
    · rename_i hlen
      split at h
      · rename_i hp
        simp only [Option.some.injEq, Prod.mk.injEq] at h
        obtain ⟨rfl, rfl⟩ := h
        exact ⟨readV_length _ (by omega), hp, readV_good _ hlen⟩
      · simp at h
    · simp at h
end Go.Proofs.YtalnfjnfcloonaaGreatDoor

/-
  The contract of octet.Unhex.
-/
namespace Go.Proofs.YtalnfjnfcloonaaGreatDoor
open Go.RowKit
set_option linter.unusedVariables false

end Go.Proofs.YtalnfjnfcloonaaGreatDoor

/-
  The contract of addr.ParseMac.
-/
namespace Go.Proofs.YtalnfjnfcloonaaGreatDoor
open Go.RowKit
set_option linter.unusedVariables false



end Go.Proofs.YtalnfjnfcloonaaGreatDoor

/-
  The text of a good address is read back.
-/
namespace Go.Proofs.YtalnfjnfcloonaaGreatDoor
open Go.RowKit
set_option linter.unusedVariables false

theorem two_back (a b : UInt8) : putL (a.toNat * 256 + b.toNat) 2 = [a, b] := by
  have h1 := a.toNat_lt; have h2 := b.toNat_lt
  simp only [putL, List.cons.injEq, and_true]
  constructor
  · apply UInt8.toNat_inj.1; rw [UInt8.toNat_ofNat']; omega
  · apply UInt8.toNat_inj.1; rw [UInt8.toNat_ofNat']; omega
theorem words_back (l : List UInt8) (hl : l.length = 16) : (wordsV l).flatMap (fun n => putL n 2) = l := by
  obtain ⟨b0, b1, b2, b3, b4, b5, b6, b7, b8, b9, ba, bb, bc, bd, be, bf, rfl⟩ := list16 hl
  have e : wordsV [b0, b1, b2, b3, b4, b5, b6, b7, b8, b9, ba, bb, bc, bd, be, bf] = [b0.toNat * 256 + b1.toNat, b2.toNat * 256 + b3.toNat, b4.toNat * 256 + b5.toNat, b6.toNat * 256 + b7.toNat, b8.toNat * 256 + b9.toNat, ba.toNat * 256 + bb.toNat, bc.toNat * 256 + bd.toNat, be.toNat * 256 + bf.toNat] := rfl
  rw [e]
  simp only [List.flatMap_cons, List.flatMap_nil, two_back]
  rfl
theorem rough_prt6 (l : List UInt8) (hl : l.length = 16) : roughV (prt6 l) = l := by
  have hw := wordsV_length l
  have hle := wordsV_lt l
  unfold prt6
  split
  · rw [jn16_D, rough_all (wordsV l) hw hle, words_back l hl]
  · have hg := (gapK_le (wordsV l) 8).2.2
    have := rough_gap (wordsV l) hw hle (gapK (wordsV l) 8).1 (gapK (wordsV l) 8).2.1 hg (gap_zero (wordsV l) hw)
    rw [words_back l hl] at this
    exact this
theorem one_back (a : UInt8) : putL a.toNat 1 = [a] := by
  have h1 := a.toNat_lt
  simp only [putL, List.cons.injEq, and_true]
  apply UInt8.toNat_inj.1; rw [UInt8.toNat_ofNat']; omega
theorem ones_back : ∀ l : List UInt8, (l.map (·.toNat)).flatMap (fun n => putL n 1) = l
  | [] => rfl
  | a :: r => by rw [List.map_cons, List.flatMap_cons, ones_back r, one_back]; rfl
theorem rough_prt4 (l : List UInt8) (hl : l.length = 16) : roughV (dotP l 4) = l.take 4 := by
  unfold dotP jn10
  rw [rough_dots _ (by simp; omega) (by
    intro n hn
    obtain ⟨b, _, rfl⟩ := List.mem_map.1 hn
    have := b.toNat_lt
    omega), ones_back]
theorem num16_len (n : Nat) (h : n ≤ 65535) : (D16 n).length ≤ 4 := by
  have key : ∀ (f n : Nat), n < 16 ^ (f + 1) → (digs 16 (f + 2) n).length ≤ f + 1 := by
    intro f
    induction f with
    | zero => intro n h; have h' : n < 16 := by simpa using h
              simp [digs, h']
    | succ f ih =>
      intro n h
      unfold digs
      split
      · simp
      · have h1 : n / 16 < 16 ^ (f + 1) := by rw [Nat.div_lt_iff_lt_mul (by omega), ← Nat.pow_succ]; exact h
        have := ih (n / 16) h1
        simp; omega
  exact key 3 n (by omega)
theorem jn4_len : ∀ ws : List Nat, (∀ n ∈ ws, n ≤ 65535) → (jnD D16 ws).length + 1 ≤ 5 * ws.length + 1 ∧ (ws ≠ [] → (jnD D16 ws).length + 1 ≤ 5 * ws.length)
  | [], _ => by simp [jnD, Lib.join_nil]
  | [a], h => by rw [jnD_one]; have := num16_len a (h a (by simp)); simp; omega
  | a :: b :: r, h => by
    have ih := (jn4_len (b :: r) (fun n hn => h n (by simp at hn ⊢; exact .inr hn))).2 (by simp)
    have := num16_len a (h a (by simp))
    rw [jnD_cons2]
    simp at ih ⊢
    omega
theorem prt6_len (l : List UInt8) : (prt6 l).length ≤ 39 := by
  have hw := wordsV_length l
  have hle := wordsV_lt l
  unfold prt6
  split
  · have := (jn4_len (wordsV l) hle).2 (by intro e; rw [e] at hw; simp at hw)
    rw [jn16_D]
    omega
  · rename_i h2
    have hg := (gapK_le (wordsV l) 8).2.2
    have h3 := (jn4_len ((wordsV l).take (gapK (wordsV l) 8).1) (fun n hn => hle n (List.mem_of_mem_take hn))).1
    have h4 := (jn4_len ((wordsV l).drop ((gapK (wordsV l) 8).1 + (gapK (wordsV l) 8).2.1)) (fun n hn => hle n (List.mem_of_mem_drop hn))).1
    rw [List.length_take] at h3
    rw [List.length_drop] at h4
    rw [jn16_D, jn16_D, List.length_append, List.length_append]
    simp only [List.length_cons, List.length_nil]
    omega
theorem parse_prt (v : Bool) (L : List UInt8) (hL : L.length = 16) (hg : goodV v L = true) : parseV (prtV v L) = some (v, L) := by
  cases v with
  | true =>
    have h1 : prtV true L = prt6 L := rfl
    have h2 := prt6_len L
    have h3 := rough_prt6 L hL
    unfold parseV
    rw [h1, h3, if_neg (by omega), if_pos (by omega)]
    have e : decide (L.length = 16) = true := by simp [hL]
    have e2 : readV L = L := by unfold readV; rw [hL]; simp
    rw [e, e2, h1, if_pos rfl]
  | false =>
    have h1 : prtV false L = dotP L 4 := rfl
    have h2 := dotP_len L 4
    have h3 := rough_prt4 L hL
    have hlen : (L.take 4).length = 4 := by simp; omega
    have hgd : L = ownV false L := by
      unfold goodV at hg
      rw [Bool.false_or, decide_eq_true_eq] at hg
      exact hg
    have e2 : readV (L.take 4) = L := by
      unfold readV
      rw [hlen]
      conv => rhs; rw [hgd]
      simp [ownV, ownK, hL]
    unfold parseV
    rw [h1, h3, if_neg (by omega), if_pos (by omega)]
    have e : decide ((L.take 4).length = 16) = false := by rw [hlen]; rfl
    rw [e, e2, h1, if_pos rfl]
/-! The text of an address of Ethernet is read back, too. -/
end Go.Proofs.YtalnfjnfcloonaaGreatDoor

/-
  The contract of srcs' Print.
-/
namespace Go.Proofs.YtalnfjnfcloonaaGreatDoor
open Go.RowKit
set_option linter.unusedVariables false
set_option linter.unusedSimpArgs false
attribute [local go_sem ↓] ld_addr st_addr
attribute [local go_sem] ldr_addr str_addr row?_drewN_eq row?_drew_eq

theorem prtB_eq (a : AD) : prtV a.1 a.2 = prtB a := by
  obtain ⟨v, l⟩ := a
  cases v <;> rfl
theorem prtB_len (a : AD) : (prtB a).length ≤ 39 := by
  obtain ⟨v, l⟩ := a
  cases v with
  | true => exact prt6_len l
  | false => have := dotP_len l 4; show (dotP l 4).length ≤ _; omega
theorem sprint1_any (a : AD) (ho : adOk a) (w : World) (h : Env w) : Calls Tryz.prog 18 #[.agg (adC a).toArray] w fun e w' => e = .returned (.string (Str (prtB a))) ∧ Below w.heap.size w w' := by
  rw [← prtB_eq]; exact print_any a.1 a.2 ho w h
theorem joinA_next {l : List AD} {k : Nat} (h : k + 1 < l.length) : joinA (l.take (k + 2)) = joinA (l.take (k + 1)) ++ [44] ++ prtB l[k + 1] := by
  rw [joinA_take h, if_neg (by omega)]; simp
theorem joinA_first {l : List AD} (h : 0 < l.length) : joinA (l.take 1) = prtB l[0] := by
  rw [joinA_take h, if_pos rfl]
theorem joinA_ne {l : List AD} (h : ∀ a ∈ l, prtB a ≠ []) (hn : l ≠ []) : joinA l ≠ [] := by
  match l, hn with
  | [a], _ => exact h a (by simp)
  | a :: b :: r, _ => simp [joinA]

/-- A builder, and an address boxed behind it. -/
def KB (w : World) (m : Nat) (t : List UInt8) (W : World) (x : Nat) (a : AD) : Prop := SB m W m t ∧ ObjAt W x (adC a).toArray 36 ∧ Below m w W ∧ m < x
theorem KB.below {w W W' : World} {m x : Nat} {t : List UInt8} {a : AD} (h : KB w m t W x a) (hm : m = w.heap.size) (hb : Below W.heap.size W W') : KB w m t W' x a :=
  ⟨h.1.below hb, h.2.1.below hb h.2.1.lt, h.2.2.1.trans (hb.mono (by rw [hm] at *; exact h.2.2.1.size)), h.2.2.2⟩
theorem KB.wrote {w W W' : World} {m x : Nat} {t u : List UInt8} {a : AD} (h : KB w m t W x a) (hm : m = w.heap.size) (hs : SB m W' m u) (hk : SK m m W W') : KB w m u W' x a :=
  ⟨hs, h.2.1.sk hk (by have := h.2.2.2; omega) (by decide), h.2.2.1.trans (hk.blw (Nat.le_refl _) (Nat.le_refl _) (by rw [hm] at *; exact h.2.2.1.size)), h.2.2.2⟩
theorem KB.env {w W : World} {m x : Nat} {t : List UInt8} {a : AD} (h : KB w m t W x a) (hm : m = w.heap.size) (hE : Env w) : Env W := hE.below (by rw [← hm]; exact h.2.2.1)

set_option maxRecDepth 100000 in
set_option maxHeartbeats 1000000 in
theorem sprint_any (v : Value) (l : List AD) (w : World) (ha : Ads w v l) (hll : l.length ≤ 1000) (hpn : ∀ a ∈ l, prtB a ≠ []) (hE : Env w) : Calls Tryz.prog 9 #[v] w fun x w' => x = .returned (.string (Str (prtL l))) ∧ Below w.heap.size w w' := by
  obtain ⟨p, cap, rfl, h1, h2⟩ := ha.len
  obtain ⟨n, hn⟩ : ∃ n, n = l.length := ⟨_, rfl⟩
  rw [← hn]
  by_cases h0 : n = 0
  · have e : l = [] := List.eq_nil_of_length_eq_zero (by omega)
    have HD := Lib.hid (show prtL l = [45] by rw [e]; rfl)
    subst h0
    clear ha hn h1 h2 hll e hE hpn
    go_enter Tryz.func9, Tryz.ntmps9
    go_wp2
    go_ret
    exact ⟨by rw [HD.out]; rfl, Below.refl _ _⟩
  have hne : l ≠ [] := fun e => h0 (by rw [hn, e]; rfl)
  have HD := Lib.hid (show prtL l = joinA l by unfold prtL; rw [if_neg hne])
  have HNE := Lib.hid (joinA_ne hpn hne)
  have HLL : Hid ((joinA l).length ≤ 1000000000) := Lib.hid (by
    have := joinA_length (l := l) (n := 39) (fun a _ => prtB_len a)
    have h3 : l.length * 40 ≤ 1000 * 40 := Nat.mul_le_mul_right _ hll
    omega)
  have t0 : ((n : Int) == 0) = false := by simp; omega
  obtain ⟨b, o, cap', e, _, _, hbl, RA⟩ := ha.parts hne
  simp only [Value.slice.injEq] at e
  obtain ⟨rfl, -, hcc⟩ := e
  subst hcc
  have HRA := Lib.hid RA
  have HBL := Lib.hid hbl
  have OA := Lib.hid ha.ok
  have HE := Lib.hid hE
  have HN := Lib.hid hn
  have HNL : Hid (n ≤ 1000) := Lib.hid (by omega)
  obtain ⟨m, hm⟩ : ∃ m, m = w.heap.size := ⟨_, rfl⟩
  have HMM : Hid (∀ W, Below m w W → m ≤ W.heap.size) := Lib.hid fun W h => by rw [hm]; exact h.size
  have HM := Lib.hid (ObjAt.made w #[.pointer none, .slice none 0 0] 47)
  have HMB := Lib.hid ((Below.refl w.heap.size w).alloc (Nat.le_refl _) (.cells #[.pointer none, .slice none 0 0] 47))
  rw [← hm] at HM HMB HBL
  rw [← hm]
  have HMEQ := Lib.hid hm
  have h3 : n ≤ cap := by omega
  clear ha hn h1 h2 hll hE hpn hne hbl RA hm
  go_enter Tryz.func9, Tryz.ntmps9
  go_upto_region 4 with (fail)
  generalize w.alloc _ = W0 at HM HMB ⊢
  rw [← HMEQ.out]
  have H0 := Lib.hid (SB.new HM.out m)
  clear HM
  go_wp2_with fail
  go_loopw [11] (fun i wr => ∃ k : Nat, k ≤ n ∧ i = .int .i64 k ∧ Hid (SB m wr m (joinA (l.take k))) ∧ Hid (Below m w wr)) (fun i _ => n - (intOf i).toNat)
  case atStart => exact ⟨0, by omega, rfl, Lib.hid (by simpa [joinA] using H0.out), HMB⟩
  case round =>
    obtain ⟨k, hk, rfl, HS, HB⟩ := hrel
    by_cases hlt : k < n
    · have g1 : k < l.length := by rw [← HN.out]; exact hlt
      have r1 : row? wr b (o + k * 17) 17 = some (adC l[k]) := row?_below (HRA.out k g1) HBL.out HB.out
      have hnl := HNL.out
      have hd : decide ((k : Int) < (n : Int)) = true := by simp; omega
      have hw1 : IntKind.i64.wrap ((k : Int) + 1) = (k : Int) + 1 := by simp only [IntKind.wrap_i64]; omega
      have hk1 : (k : Int) < (n : Int) := by omega
      have hoc := OA.out _ (List.getElem_mem g1)
      have HLJ : Hid ((joinA (l.take k)).length ≤ 100000) := Lib.hid (by
        have h5 := joinA_length (l := l.take k) (n := 39) (fun a _ => prtB_len a)
        rw [List.length_take] at h5
        have h6 := HNL.out
        have h7 : (min k l.length) * 40 ≤ 1000 * 40 := Nat.mul_le_mul_right _ (by omega)
        omega)
      have hfm := free_made wr #[.bool false, .int .u8 0, .int .u8 0, .int .u8 0, .int .u8 0, .int .u8 0, .int .u8 0, .int .u8 0, .int .u8 0, .int .u8 0, .int .u8 0, .int .u8 0, .int .u8 0, .int .u8 0, .int .u8 0, .int .u8 0, .int .u8 0] 36 17 (by decide)
      have hfok : fok (adC l[k]).toArray 17 = true := fok_addr l[k].1 l[k].2 hoc
      have HBX : Hid (KB w m (joinA (l.take k)) (aggW (wr.alloc (.cells #[.bool false, .int .u8 0, .int .u8 0, .int .u8 0, .int .u8 0, .int .u8 0, .int .u8 0, .int .u8 0, .int .u8 0, .int .u8 0, .int .u8 0, .int .u8 0, .int .u8 0, .int .u8 0, .int .u8 0, .int .u8 0, .int .u8 0] 36)) wr.heap.size (adC l[k])) wr.heap.size l[k]) := Lib.hid (by
        have h := box_put wr l[k] hoc
        exact ⟨HS.out.below h.2, h.1, HB.out.trans (h.2.mono (HMM.out _ HB.out)), SB.lt HS.out⟩)
      have HPR := Lib.hid (fun W hW => sprint1_any l[k] hoc W hW)
      have hlc := Lib.hid (prtB_len l[k])
      have HRO : Hid (∀ W t, KB w m t W wr.heap.size l[k] → row? W wr.heap.size 0 17 = some (adC l[k])) := Lib.hid fun W t h => box_row h.2.1 hoc
      cases k with
      | zero =>
        have HJ := Lib.hid (joinA_first g1)
        rw [Nat.zero_mul, Nat.add_zero] at r1
        generalize l[0] = c at *
        clear g1 hoc
        go_upto_region 7 with (fail)
        generalize aggW (wr.alloc _) wr.heap.size _ = W1 at HBX ⊢
        clear hfm hfok r1 HS HB
        have r2 := HRO.out _ _ HBX.out
        have HWS := Lib.hid (fun W (h : KB w m (joinA (l.take 0)) W wr.heap.size c) => sstr_any m m (joinA (l.take 0)) (prtB c) W h.1 (by have := HLJ.out; have := hlc.out; omega) (HMM.out _ h.2.2.1))
        go_wp2_with (first
          | (go_at_call 18; (with_reducible refine (HPR.out _ (KB.env HBX.out HMEQ.out HE.out)).mono ?_); rintro x w2 ⟨rfl, hb⟩; have H2 := Lib.hid (HBX.out.below HMEQ.out hb); clear hb r2)
          | (go_at_call 17; (with_reducible refine (HWS.out _ H2.out).mono ?_); rintro x w3 ⟨rfl, hs, hk⟩; have H3 := Lib.hid (H2.out.wrote HMEQ.out hs hk); clear hs hk))
        go_roundw
        case rel => exact ⟨1, by omega, by go_num, Lib.hid (by rw [HJ.out]; simpa [joinA] using H3.out.1), Lib.hid H3.out.2.2.1⟩
        case measure => simp [intOf]; omega
      | succ j =>
        have HJ := Lib.hid (joinA_next g1)
        have hgt : decide ((j : Int) + 1 > 0) = true := decide_eq_true (by omega)
        have hgt2 : (0 : Int) < (j : Int) + 1 := by omega
        have htn : ((j : Int) + 1).toNat = j + 1 := by omega
        have hge : (0 : Int) ≤ (j : Int) + 1 := by omega
        generalize l[j + 1] = c at *
        clear g1 hoc
        go_upto_region 7 with (fail)
        generalize aggW (wr.alloc _) wr.heap.size _ = W1 at HBX ⊢
        clear hfm hfok r1 HS HB
        have HWS := Lib.hid (fun W (h : KB w m (joinA (l.take (j + 1)) ++ [44]) W wr.heap.size c) => sstr_any m m (joinA (l.take (j + 1)) ++ [44]) (prtB c) W h.1 (by have := HLJ.out; have := hlc.out; simp only [List.length_append, List.length_cons, List.length_nil]; omega) (HMM.out _ h.2.2.1))
        have HW44 : Hid (Calls Tryz.prog 17 #[.pointer (some ⟨m, 0, none⟩), .string ⟨#[44]⟩] W1 fun x w' => x = .returned (.tuple #[.int .i64 (1 : Nat), .nilIface]) ∧ SB m w' m (joinA (l.take (j + 1)) ++ [44]) ∧ SK m m W1 w') := Lib.hid (sstr_any m m _ [44] _ HBX.out.1 (by have := HLJ.out; simp only [List.length_cons, List.length_nil]; omega) (HMM.out _ HBX.out.2.2.1))
        go_wp2_with (first
          | (go_at_call 17; (with_reducible refine HW44.out.mono ?_); rintro x w2 ⟨rfl, hs, hk⟩; have H2 := Lib.hid (HBX.out.wrote HMEQ.out hs hk); clear hs hk; have r2 := HRO.out _ _ H2.out)
          | (go_at_call 18; (with_reducible refine (HPR.out _ (KB.env H2.out HMEQ.out HE.out)).mono ?_); rintro x w3 ⟨rfl, hb⟩; have H3 := Lib.hid (H2.out.below HMEQ.out hb); clear hb r2)
          | (go_at_call 17; (with_reducible refine (HWS.out _ H3.out).mono ?_); rintro x w4 ⟨rfl, hs, hk⟩; have H4 := Lib.hid (H3.out.wrote HMEQ.out hs hk); clear hs hk))
        go_roundw
        case rel => exact ⟨j + 2, by omega, by go_num, Lib.hid (by rw [HJ.out]; exact H4.out.1), Lib.hid H4.out.2.2.1⟩
        case measure => simp [intOf]; omega
    · have hd : ¬ (k : Int) < (n : Int) := by omega
      have HV := Lib.hid (show l.take k = l from List.take_of_length_le (by rw [← HN.out]; omega))
      have HSV : Hid (SB m wr m (joinA l)) := Lib.hid (by have := HS.out; rw [HV.out] at this; exact this)
      have HTX := Lib.hid (stext_any wr HSV.out HNE.out HLL.out)
      go_wp2_with (go_at_call 19; (with_reducible refine HTX.out.mono ?_); rintro e w3 ⟨rfl, hb3⟩; have K3 := Lib.hid (HB.out.trans hb3); clear hb3)
      go_ret
      exact ⟨by rw [HD.out]; rfl, K3.out⟩
end Go.Proofs.YtalnfjnfcloonaaGreatDoor

/-
  A region that draws its order and whose calls leave a class of worlds: walked once, in the order of the text, guards too.
-/
namespace Go.Proofs.YtalnfjnfcloonaaGreatDoor
open Go.RowKit
set_option linter.unusedVariables false

/-- A world of a class. -/
structure InS (S : World → Prop) where
  W : World
  h : S W
theorem wp_region_inS {P : Program} {id : Nat} {Q : Exit → Act → World → Prop} {a : Act} {w : World} {l : List Oper} (S : World → Prop) (hm : P.follows .mixedOrders = true) (hB : Region.lexB .any l.toArray = true) (h0 : S w.drew)
    (h : wpQuiet P l.toArray (fun w' => ∃ p : InS S, w' = p.W) (fun a' => ∀ w', (∃ p : InS S, w' = p.W) → Q .normal a' w') l a) : (Code.region id l.toArray true).wp P Q a w :=
  wp_region_quiet (C := fun w' => ∃ p : InS S, w' = p.W) hm hB ⟨⟨w.drew, h0⟩, rfl⟩ (by simpa using h)
/-- A callee's contract, met in a world of the class. -/
theorem Calls.inS {P : Program} {f : FuncId} {args : Array Value} {S : World → Prop} {v : Value} (hk : ∀ W W', S W → Below W.heap.size W W' → S W') (p : InS S)
    (h : ∀ W, S W → Calls P f args W fun e w' => e = .returned v ∧ Below W.heap.size W w') : Calls P f args p.W fun e w'' => e = .returned v ∧ ∃ q : InS S, w'' = q.W :=
  (h p.W p.h).mono fun _ _ ⟨he, hb⟩ => ⟨he, ⟨⟨_, hk _ _ p.h hb⟩, rfl⟩⟩
end Go.Proofs.YtalnfjnfcloonaaGreatDoor

