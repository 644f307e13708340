/-
  The law's walk: what is read of a text is printed so.
-/
import Derived.Test.YtmpikhpnkfnnoaaGreatDoorRprint6
import Derived.Test.YtmpikhpnkfnnoaaGreatDoorPmac
import Derived.Test.YtmpikhpnkfnnoaaGreatDoorPureParse
import Derived.Test.YtmpikhpnkfnnoaaGreatDoorEqM
import Derived.Test.YtmpikhpnkfnnoaaGreatDoorLives
namespace Go.Proofs.YtmpikhpnkfnnoaaGreatDoor
open Go.RowKit
set_option linter.unusedVariables false
attribute [local go_sem ↓] bld_addr bld_mac ld_addr st_addr ld_mac st_mac
attribute [local go_sem] ldr_addr str_addr ldr_mac str_mac

theorem rprint_any (v : Bool) (l : List UInt8) (hl : l.length = 16) (w : World) : Calls Tryz.prog 26 #[.agg (addrC v l).toArray] w fun x w' => x = .returned (.string (Str (prtV v l))) ∧ Below w.heap.size w w' := by
  cases v with
  | true => exact rprint6_any l hl w
  | false => exact rprint4_any l hl w
/-- An address made later, and an address of Ethernet made behind it. -/
def P1 (w W : World) (m : Nat) (v : Bool) (L : List UInt8) : Prop := ObjAt W m (addrC v L).toArray 24 ∧ L.length = 16 ∧ Below w.heap.size w W
def P2 (w W : World) (m n : Nat) (v : Bool) (L M : List UInt8) : Prop := P1 w W m v L ∧ ObjAt W n (B8 M).toArray 28 ∧ m < n ∧ M.length = 6
theorem P1.below {w W W' : World} {m : Nat} {v : Bool} {L : List UInt8} (h : P1 w W m v L) (hb : Below W.heap.size W W') : P1 w W' m v L := ⟨h.1.below hb h.1.lt, h.2.1, bstep h.2.2 hb⟩
theorem P2.below {w W W' : World} {m n : Nat} {v : Bool} {L M : List UInt8} (h : P2 w W m n v L M) (hb : Below W.heap.size W W') : P2 w W' m n v L M := ⟨h.1.below hb, h.2.1.below hb h.2.1.lt, h.2.2⟩
theorem P1.made {w W : World} (h : Below w.heap.size w W) (v : Bool) (L : List UInt8) (hL : L.length = 16) : P1 w (aggW (W.alloc (.cells #[.bool false, .int .u8 0, .int .u8 0, .int .u8 0, .int .u8 0, .int .u8 0, .int .u8 0, .int .u8 0, .int .u8 0, .int .u8 0, .int .u8 0, .int .u8 0, .int .u8 0, .int .u8 0, .int .u8 0, .int .u8 0, .int .u8 0] 24)) W.heap.size (addrC v L)) W.heap.size v L :=
  ⟨aggW_obj (L := addrC false (List.replicate 16 0)) (ObjAt.made W _ _) (by rw [addrC_length, addrC_length, hL]; rfl) (addrC_one v L), hL, aggW_below (h.alloc h.size _) h.size _⟩
theorem P2.made {w W : World} {m : Nat} {v : Bool} {L : List UInt8} (h : P1 w W m v L) (M : List UInt8) (hM : M.length = 6) : P2 w (aggW (W.alloc (.cells #[.int .u8 0, .int .u8 0, .int .u8 0, .int .u8 0, .int .u8 0, .int .u8 0] 28)) W.heap.size (B8 M)) m W.heap.size v L M := by
  have l1 := h.1.lt
  have l2 := h.2.2.size
  exact ⟨⟨aggW_other (h.1.alloc _) _ (by omega), h.2.1, aggW_below (h.2.2.alloc (by omega) _) (by omega) _⟩, aggW_obj (L := B8 [0, 0, 0, 0, 0, 0]) (ObjAt.made W _ _) (by rw [B8_length, B8_length, hM]; rfl) (B8_one M), l1, hM⟩
theorem P1.row {w W : World} {m : Nat} {v : Bool} {L : List UInt8} (h : P1 w W m v L) : row? W m 0 17 = some (addrC v L) := obj_row (A := []) (M := addrC v L) (C := []) (by simpa using h.1) rfl (by rw [addrC_length, h.2.1])
theorem P2.row {w W : World} {m n : Nat} {v : Bool} {L M : List UInt8} (h : P2 w W m n v L M) : row? W n 0 6 = some (B8 M) := obj_row (A := []) (M := B8 M) (C := []) (by simpa using h.2.1) rfl (by rw [B8_length, h.2.2.2])

set_option maxRecDepth 100000 in
set_option maxHeartbeats 4000000 in
theorem parses_core (s : ByteArray) (hs : s.size ≤ maxLen) (w : World) (h : Env w) (l : List UInt8) (hlE : Str l = cutB s 45) (v : Bool) (L M : List UInt8) (c c2 : Int) (hL : L.length = 16) (hM : M.length = 6)
    (HP : Hid (∀ W, Env W → Calls Tryz.prog 25 #[.string (Str l)] W fun e w' => e = .returned (.tuple #[.agg (addrC v L).toArray, .int .i64 c]) ∧ Below W.heap.size W w'))
    (HQ : Hid (∀ W, Env W → Calls Tryz.prog 27 #[.string (Str l)] W fun e w' => e = .returned (.tuple #[.agg (B8 M).toArray, .int .i64 c2]) ∧ Below W.heap.size W w'))
    (hc : (c = 0 ∧ goodV v L = true ∧ prtV v L = l) ∨ (c = 2 ∧ v = false ∧ L = zero16)) (hc2 : (c2 = 0 ∧ macT M = l) ∨ (c2 = 2 ∧ M = [0, 0, 0, 0, 0, 0])) :
    Calls Tryz.prog 5 #[.string s] w fun e w' => e = .returned (.bool true) ∧ Below w.heap.size w w' := by
  have HE := Lib.hid h; clear h
  have HC : Hid (∀ W, Calls Tryz.prog 31 #[.string s, .int .i64 45] W fun x w' => x = .returned (.string (Str l)) ∧ W = w') := Lib.hid fun W => by
    rw [hlE]; exact cut_any s hs 45 (by omega) W
  have hst : ∀ t : List UInt8, (t == t) = true := fun t => by simp
  have hsn : ∀ t : List UInt8, (t != t) = false := fun t => by simp
  have hokA := fok_addr v L hL
  have hokM := fok_bytes M 6 hM
  have hbA : ∀ w0, (aggBuild 24 #[]).run Tryz.prog w0 = .ok (.agg (addrC false zero16).toArray) w0 := bld_run _ _ _ (by kernel_rfl)
  have hbM : ∀ w0, (aggBuild 28 #[]).run Tryz.prog w0 = .ok (.agg (B8 [0, 0, 0, 0, 0, 0]).toArray) w0 := bld_run _ _ _ (by kernel_rfl)
  have heqA : ∀ w0, (Op.equalIn 10000 24 (.agg (addrC false zero16).toArray) (.agg (addrC false zero16).toArray)).run Tryz.prog w0 = .ok true w0 := fun w0 => by
    have := eq_addr false false zero16 zero16 rfl rfl w0
    simpa using this
  have heqM : ∀ w0, (Op.equalIn 10000 28 (.agg (B8 [0, 0, 0, 0, 0, 0]).toArray) (.agg (B8 [0, 0, 0, 0, 0, 0]).toArray)).run Tryz.prog w0 = .ok true w0 := fun w0 => by
    have := eq_mac [0, 0, 0, 0, 0, 0] [0, 0, 0, 0, 0, 0] rfl rfl w0
    simpa using this
  have HG : Hid (∀ W, Calls Tryz.prog 7 #[.agg (addrC v L).toArray] W fun e w' => e = .returned (.bool (goodV v L)) ∧ Below W.heap.size W w') := Lib.hid fun W => rgood_any v L hL W
  have HR : Hid (∀ W, Calls Tryz.prog 26 #[.agg (addrC v L).toArray] W fun e w' => e = .returned (.string (Str (prtV v L))) ∧ Below W.heap.size W w') := Lib.hid fun W => rprint_any v L hL W
  have HRM : Hid (∀ W, Calls Tryz.prog 28 #[.agg (B8 M).toArray] W fun e w' => e = .returned (.string (Str (macT M))) ∧ Below W.heap.size W w') := Lib.hid fun W => rprintMac_any M hM W
  have HL := Lib.hid hL; have HM := Lib.hid hM
  clear hlE hs hL hM
  rcases hc with ⟨rfl, hg, hp⟩ | ⟨rfl, rfl, rfl⟩ <;> rcases hc2 with ⟨rfl, hm⟩ | ⟨rfl, rfl⟩
  · rw [hg] at HG; rw [hp] at HR; clear hg hp; rw [hm] at HRM; clear hm
    generalize Str l = S at HC HP HQ HR HRM
    go_enter Tryz.func5, Tryz.ntmps5
    go_upto_region 3 with (first
      | (go_at_call 31; (with_reducible refine (HC.out _).mono ?_); rintro x w1 ⟨rfl, rfl⟩)
      | (go_at_call 25; (with_reducible refine (HP.out _ HE.out).mono ?_); rintro x w2 ⟨rfl, hb2⟩; have hf2 := free_made w2 #[.bool false, .int .u8 0, .int .u8 0, .int .u8 0, .int .u8 0, .int .u8 0, .int .u8 0, .int .u8 0, .int .u8 0, .int .u8 0, .int .u8 0, .int .u8 0, .int .u8 0, .int .u8 0, .int .u8 0, .int .u8 0, .int .u8 0] 24 17 (by simp); have H1 := Lib.hid (P1.made hb2 v L HL.out); clear hb2))
    generalize aggW (w2.alloc (.cells #[.bool false, .int .u8 0, .int .u8 0, .int .u8 0, .int .u8 0, .int .u8 0, .int .u8 0, .int .u8 0, .int .u8 0, .int .u8 0, .int .u8 0, .int .u8 0, .int .u8 0, .int .u8 0, .int .u8 0, .int .u8 0, .int .u8 0] 24)) w2.heap.size _ = W3 at H1 ⊢
    clear hf2
    generalize w2.heap.size = m at H1 ⊢
    go_upto_region 4 with (go_at_call 27; (refine (HQ.out _ (HE.out.below H1.out.2.2)).mono ?_); rintro x w4 ⟨rfl, hb4⟩; have hf4 := free_made w4 #[.int .u8 0, .int .u8 0, .int .u8 0, .int .u8 0, .int .u8 0, .int .u8 0] 28 6 (by simp); have H2 := Lib.hid (P2.made (H1.out.below hb4) M HM.out); clear hb4)
    generalize aggW (w4.alloc (.cells #[.int .u8 0, .int .u8 0, .int .u8 0, .int .u8 0, .int .u8 0, .int .u8 0] 28)) w4.heap.size _ = W5 at H2 ⊢
    clear hf4
    generalize w4.heap.size = n at H2 ⊢
    have hr := H2.out.1.row
    have hr2 := H2.out.row
    go_wp2_with (first
      | (go_at_call 7; (with_reducible refine (HG.out _).mono ?_); rintro x w6 ⟨rfl, hb6⟩; have H3 := Lib.hid (H2.out.below hb6); clear hb6 hr hr2; have hr := H3.out.1.row; have hr2 := H3.out.row)
      | (go_at_call 26; (with_reducible refine (HR.out _).mono ?_); rintro x w7 ⟨rfl, hb7⟩; have H4 := Lib.hid (H3.out.below hb7); clear hb7 hr hr2; have hr := H4.out.1.row; have hr2 := H4.out.row)
      | (go_at_call 28; (with_reducible refine (HRM.out _).mono ?_); rintro x w8 ⟨rfl, hb8⟩; have H5 := Lib.hid (H4.out.below hb8); clear hb8 hr hr2)
      | (go_at_call 24; (refine (lives3_any _ (HE.out.below H5.out.1.2.2)).mono ?_); rintro x w9 ⟨rfl, hb9⟩; have H6 := Lib.hid (H5.out.below hb9); clear hb9))
    go_ret
    exact ⟨rfl, H6.out.1.2.2⟩
  · rw [hg] at HG; rw [hp] at HR; clear hg hp; clear HRM
    generalize Str l = S at HC HP HQ HR
    go_enter Tryz.func5, Tryz.ntmps5
    go_upto_region 3 with (first
      | (go_at_call 31; (with_reducible refine (HC.out _).mono ?_); rintro x w1 ⟨rfl, rfl⟩)
      | (go_at_call 25; (with_reducible refine (HP.out _ HE.out).mono ?_); rintro x w2 ⟨rfl, hb2⟩; have hf2 := free_made w2 #[.bool false, .int .u8 0, .int .u8 0, .int .u8 0, .int .u8 0, .int .u8 0, .int .u8 0, .int .u8 0, .int .u8 0, .int .u8 0, .int .u8 0, .int .u8 0, .int .u8 0, .int .u8 0, .int .u8 0, .int .u8 0, .int .u8 0] 24 17 (by simp); have H1 := Lib.hid (P1.made hb2 v L HL.out); clear hb2))
    generalize aggW (w2.alloc (.cells #[.bool false, .int .u8 0, .int .u8 0, .int .u8 0, .int .u8 0, .int .u8 0, .int .u8 0, .int .u8 0, .int .u8 0, .int .u8 0, .int .u8 0, .int .u8 0, .int .u8 0, .int .u8 0, .int .u8 0, .int .u8 0, .int .u8 0] 24)) w2.heap.size _ = W3 at H1 ⊢
    clear hf2
    generalize w2.heap.size = m at H1 ⊢
    go_upto_region 4 with (go_at_call 27; (refine (HQ.out _ (HE.out.below H1.out.2.2)).mono ?_); rintro x w4 ⟨rfl, hb4⟩; have hf4 := free_made w4 #[.int .u8 0, .int .u8 0, .int .u8 0, .int .u8 0, .int .u8 0, .int .u8 0] 28 6 (by simp); have H2 := Lib.hid (P2.made (H1.out.below hb4) [0, 0, 0, 0, 0, 0] HM.out); clear hb4)
    generalize aggW (w4.alloc (.cells #[.int .u8 0, .int .u8 0, .int .u8 0, .int .u8 0, .int .u8 0, .int .u8 0] 28)) w4.heap.size _ = W5 at H2 ⊢
    clear hf4
    generalize w4.heap.size = n at H2 ⊢
    have hr := H2.out.1.row
    have hr2 := H2.out.row
    go_wp2_with (first
      | (go_at_call 7; (with_reducible refine (HG.out _).mono ?_); rintro x w6 ⟨rfl, hb6⟩; have H3 := Lib.hid (H2.out.below hb6); clear hb6 hr hr2; have hr := H3.out.1.row; have hr2 := H3.out.row)
      | (go_at_call 26; (with_reducible refine (HR.out _).mono ?_); rintro x w7 ⟨rfl, hb7⟩; have H4 := Lib.hid (H3.out.below hb7); clear hb7 hr hr2; have hr := H4.out.1.row; have hr2 := H4.out.row)
      | (go_at_call 24; (refine (lives3_any _ (HE.out.below H4.out.1.2.2)).mono ?_); rintro x w9 ⟨rfl, hb9⟩; have H6 := Lib.hid (H4.out.below hb9); clear hb9))
    go_ret
    exact ⟨rfl, H6.out.1.2.2⟩
  · clear HR HG; rw [hm] at HRM; clear hm
    generalize Str l = S at HC HP HQ HRM
    go_enter Tryz.func5, Tryz.ntmps5
    go_upto_region 3 with (first
      | (go_at_call 31; (with_reducible refine (HC.out _).mono ?_); rintro x w1 ⟨rfl, rfl⟩)
      | (go_at_call 25; (with_reducible refine (HP.out _ HE.out).mono ?_); rintro x w2 ⟨rfl, hb2⟩; have hf2 := free_made w2 #[.bool false, .int .u8 0, .int .u8 0, .int .u8 0, .int .u8 0, .int .u8 0, .int .u8 0, .int .u8 0, .int .u8 0, .int .u8 0, .int .u8 0, .int .u8 0, .int .u8 0, .int .u8 0, .int .u8 0, .int .u8 0, .int .u8 0] 24 17 (by simp); have H1 := Lib.hid (P1.made hb2 false zero16 HL.out); clear hb2))
    generalize aggW (w2.alloc (.cells #[.bool false, .int .u8 0, .int .u8 0, .int .u8 0, .int .u8 0, .int .u8 0, .int .u8 0, .int .u8 0, .int .u8 0, .int .u8 0, .int .u8 0, .int .u8 0, .int .u8 0, .int .u8 0, .int .u8 0, .int .u8 0, .int .u8 0] 24)) w2.heap.size _ = W3 at H1 ⊢
    clear hf2
    generalize w2.heap.size = m at H1 ⊢
    go_upto_region 4 with (go_at_call 27; (refine (HQ.out _ (HE.out.below H1.out.2.2)).mono ?_); rintro x w4 ⟨rfl, hb4⟩; have hf4 := free_made w4 #[.int .u8 0, .int .u8 0, .int .u8 0, .int .u8 0, .int .u8 0, .int .u8 0] 28 6 (by simp); have H2 := Lib.hid (P2.made (H1.out.below hb4) M HM.out); clear hb4)
    generalize aggW (w4.alloc (.cells #[.int .u8 0, .int .u8 0, .int .u8 0, .int .u8 0, .int .u8 0, .int .u8 0] 28)) w4.heap.size _ = W5 at H2 ⊢
    clear hf4
    generalize w4.heap.size = n at H2 ⊢
    have hr := H2.out.1.row
    have hr2 := H2.out.row
    go_wp2_with (first
      | (go_at_call 28; (with_reducible refine (HRM.out _).mono ?_); rintro x w8 ⟨rfl, hb8⟩; have H5 := Lib.hid (H2.out.below hb8); clear hb8 hr hr2)
      | (go_at_call 24; (refine (lives3_any _ (HE.out.below H5.out.1.2.2)).mono ?_); rintro x w9 ⟨rfl, hb9⟩; have H6 := Lib.hid (H5.out.below hb9); clear hb9))
    go_ret
    exact ⟨rfl, H6.out.1.2.2⟩
  · clear HR HG; clear HRM
    generalize Str l = S at HC HP HQ
    go_enter Tryz.func5, Tryz.ntmps5
    go_upto_region 3 with (first
      | (go_at_call 31; (with_reducible refine (HC.out _).mono ?_); rintro x w1 ⟨rfl, rfl⟩)
      | (go_at_call 25; (with_reducible refine (HP.out _ HE.out).mono ?_); rintro x w2 ⟨rfl, hb2⟩; have hf2 := free_made w2 #[.bool false, .int .u8 0, .int .u8 0, .int .u8 0, .int .u8 0, .int .u8 0, .int .u8 0, .int .u8 0, .int .u8 0, .int .u8 0, .int .u8 0, .int .u8 0, .int .u8 0, .int .u8 0, .int .u8 0, .int .u8 0, .int .u8 0] 24 17 (by simp); have H1 := Lib.hid (P1.made hb2 false zero16 HL.out); clear hb2))
    generalize aggW (w2.alloc (.cells #[.bool false, .int .u8 0, .int .u8 0, .int .u8 0, .int .u8 0, .int .u8 0, .int .u8 0, .int .u8 0, .int .u8 0, .int .u8 0, .int .u8 0, .int .u8 0, .int .u8 0, .int .u8 0, .int .u8 0, .int .u8 0, .int .u8 0] 24)) w2.heap.size _ = W3 at H1 ⊢
    clear hf2
    generalize w2.heap.size = m at H1 ⊢
    go_upto_region 4 with (go_at_call 27; (refine (HQ.out _ (HE.out.below H1.out.2.2)).mono ?_); rintro x w4 ⟨rfl, hb4⟩; have hf4 := free_made w4 #[.int .u8 0, .int .u8 0, .int .u8 0, .int .u8 0, .int .u8 0, .int .u8 0] 28 6 (by simp); have H2 := Lib.hid (P2.made (H1.out.below hb4) [0, 0, 0, 0, 0, 0] HM.out); clear hb4)
    generalize aggW (w4.alloc (.cells #[.int .u8 0, .int .u8 0, .int .u8 0, .int .u8 0, .int .u8 0, .int .u8 0] 28)) w4.heap.size _ = W5 at H2 ⊢
    clear hf4
    generalize w4.heap.size = n at H2 ⊢
    have hr := H2.out.1.row
    have hr2 := H2.out.row
    go_wp2_with (first
      | (go_at_call 24; (refine (lives3_any _ (HE.out.below H2.out.1.2.2)).mono ?_); rintro x w9 ⟨rfl, hb9⟩; have H6 := Lib.hid (H2.out.below hb9); clear hb9))
    go_ret
    exact ⟨rfl, H6.out.1.2.2⟩

theorem parses_any (s : ByteArray) (hs : s.size ≤ maxLen) (w : World) (h : Env w) :
    Calls Tryz.prog 5 #[.string s] w fun e w' => e = .returned (.bool true) ∧ Below w.heap.size w w' := by
  obtain ⟨l, hlE⟩ : ∃ l : List UInt8, Str l = cutB s 45 := ⟨(cutB s 45).data.toList, Str_of _⟩
  have hll : l.length ≤ 45 := by have := cutB_size s 45; rw [← hlE, Str_size] at this; exact this
  have hP := fun W hW => parse_any l (by omega) W hW
  have hQ := fun W hW => parseMac_any l (by omega) W hW
  cases hp : parseV l with
  | none =>
    rw [hp] at hP
    cases hq : pmV l with
    | none =>
      rw [hq] at hQ
      exact parses_core s hs w h l hlE false zero16 [0, 0, 0, 0, 0, 0] 2 2 rfl rfl (Lib.hid hP) (Lib.hid hQ) (.inr ⟨rfl, rfl, rfl⟩) (.inr ⟨rfl, rfl⟩)
    | some M =>
      rw [hq] at hQ
      obtain ⟨q1, q2⟩ := pmV_some hq
      exact parses_core s hs w h l hlE false zero16 M 2 0 rfl q1 (Lib.hid hP) (Lib.hid hQ) (.inr ⟨rfl, rfl, rfl⟩) (.inl ⟨rfl, q2⟩)
  | some x =>
    obtain ⟨v, L⟩ := x
    rw [hp] at hP
    obtain ⟨p1, p2, p3⟩ := parseV_some hp
    cases hq : pmV l with
    | none =>
      rw [hq] at hQ
      exact parses_core s hs w h l hlE v L [0, 0, 0, 0, 0, 0] 0 2 p1 rfl (Lib.hid hP) (Lib.hid hQ) (.inl ⟨rfl, p3, p2⟩) (.inr ⟨rfl, rfl⟩)
    | some M =>
      rw [hq] at hQ
      obtain ⟨q1, q2⟩ := pmV_some hq
      exact parses_core s hs w h l hlE v L M 0 0 p1 q1 (Lib.hid hP) (Lib.hid hQ) (.inl ⟨rfl, p3, p2⟩) (.inl ⟨rfl, q2⟩)
end Go.Proofs.YtmpikhpnkfnnoaaGreatDoor
