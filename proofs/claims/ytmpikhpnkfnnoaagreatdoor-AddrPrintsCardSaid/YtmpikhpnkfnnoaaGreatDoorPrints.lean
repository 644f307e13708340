/-
  The law's walk: an address's text, and that it comes back from it.
-/
import Derived.Test.YtmpikhpnkfnnoaaGreatDoorParses
import Derived.Test.YtmpikhpnkfnnoaaGreatDoorPureBack
import Derived.Test.YtmpikhpnkfnnoaaGreatDoorOwn
import Derived.Deep.RegionHeld3
namespace Go.Proofs.YtmpikhpnkfnnoaaGreatDoor
open Go.RowKit
set_option linter.unusedVariables false
attribute [local go_sem ↓] bld_addr bld_mac ld_addr st_addr ld_mac st_mac
attribute [local go_sem] ldr_addr str_addr ldr_mac str_mac

def macS : Shape (List UInt8) := bytesS 6
theorem opens_macS : Opens Tryz.prog 28 macS := opens_bytes Tryz.underlying28 Tryz.underlying5 (by kernel_rfl) (by kernel_rfl)
/-- The address and the address of Ethernet that came in; what is read of the texts of the one, and of the other. -/
def Q2 (w W : World) (v : Bool) (L M : List UInt8) : Prop := ObjAt W w.heap.size (addrC v L).toArray 24 ∧ ObjAt W (w.heap.size + 1) (B8 M).toArray 28 ∧ L.length = 16 ∧ M.length = 6 ∧ Below w.heap.size w W
def Q3 (w W : World) (m : Nat) (v : Bool) (L M : List UInt8) : Prop := Q2 w W v L M ∧ ObjAt W m (addrC v L).toArray 24 ∧ w.heap.size + 1 < m
def Q4 (w W : World) (m n : Nat) (v : Bool) (L M : List UInt8) : Prop := Q3 w W m v L M ∧ ObjAt W n (B8 M).toArray 28 ∧ m < n
theorem Q2.below {w W W' : World} {v : Bool} {L M : List UInt8} (h : Q2 w W v L M) (hb : Below W.heap.size W W') : Q2 w W' v L M := ⟨h.1.below hb h.1.lt, h.2.1.below hb h.2.1.lt, h.2.2.1, h.2.2.2.1, bstep h.2.2.2.2 hb⟩
theorem Q3.below {w W W' : World} {m : Nat} {v : Bool} {L M : List UInt8} (h : Q3 w W m v L M) (hb : Below W.heap.size W W') : Q3 w W' m v L M := ⟨h.1.below hb, h.2.1.below hb h.2.1.lt, h.2.2⟩
theorem Q4.below {w W W' : World} {m n : Nat} {v : Bool} {L M : List UInt8} (h : Q4 w W m n v L M) (hb : Below W.heap.size W W') : Q4 w W' m n v L M := ⟨h.1.below hb, h.2.1.below hb h.2.1.lt, h.2.2⟩
theorem Q4.drewN {w W : World} {m n : Nat} {v : Bool} {L M : List UInt8} (h : Q4 w W m n v L M) (k : Nat) : Q4 w (W.drewN k) m n v L M := h.below (bdrewN (Below.refl _ _) k)
theorem Q2.bel {w W : World} {v : Bool} {L M : List UInt8} (h : Q2 w W v L M) : Below w.heap.size w W := h.2.2.2.2
theorem Q4.bel {w W : World} {m n : Nat} {v : Bool} {L M : List UInt8} (h : Q4 w W m n v L M) : Below w.heap.size w W := h.1.1.2.2.2.2
theorem Q2.start (w : World) (v : Bool) (L M : List UInt8) (hL : L.length = 16) (hM : M.length = 6) : Q2 w ((w.alloc (.cells (addrC v L).toArray 24)).alloc (.cells (B8 M).toArray 28)) v L M := by
  refine ⟨(ObjAt.made w _ _).alloc _, ?_, hL, hM, ((Below.refl _ _).alloc (Nat.le_refl _) _).alloc (by simp) _⟩
  have := ObjAt.made (w.alloc (.cells (addrC v L).toArray 24)) (B8 M).toArray 28
  rw [show (w.alloc (.cells (addrC v L).toArray 24)).heap.size = w.heap.size + 1 by simp] at this
  exact this
theorem Q2.set {w W : World} {v : Bool} {l L M : List UInt8} (h : Q2 w W v l M) (hL : L.length = 16) : Q2 w (aggW W w.heap.size (addrC v L)) v L M :=
  ⟨aggW_obj h.1 (by rw [addrC_length, addrC_length, hL, h.2.2.1]) (addrC_one v L), aggW_other h.2.1 _ (by omega), hL, h.2.2.2.1, aggW_below h.2.2.2.2 (Nat.le_refl _) _⟩
theorem Q2.row {w W : World} {v : Bool} {L M : List UInt8} (h : Q2 w W v L M) : row? W w.heap.size 0 17 = some (addrC v L) := obj_row (A := []) (M := addrC v L) (C := []) (by simpa using h.1) rfl (by rw [addrC_length, h.2.2.1])
theorem Q2.free {w W : World} {v : Bool} {L M : List UInt8} (h : Q2 w W v L M) : free? W w.heap.size 0 17 = true := obj_free h.1 (by simp [addrC_length, h.2.2.1])
theorem Q2.mrow {w W : World} {v : Bool} {L M : List UInt8} (h : Q2 w W v L M) : row? W (w.heap.size + 1) 0 6 = some (B8 M) := obj_row (A := []) (M := B8 M) (C := []) (by simpa using h.2.1) rfl (by rw [B8_length, h.2.2.2.1])
theorem Q3.made {w W : World} {v : Bool} {L M : List UInt8} (h : Q2 w W v L M) : Q3 w (aggW (W.alloc (.cells #[.bool false, .int .u8 0, .int .u8 0, .int .u8 0, .int .u8 0, .int .u8 0, .int .u8 0, .int .u8 0, .int .u8 0, .int .u8 0, .int .u8 0, .int .u8 0, .int .u8 0, .int .u8 0, .int .u8 0, .int .u8 0, .int .u8 0] 24)) W.heap.size (addrC v L)) W.heap.size v L M := by
  have l1 := h.1.lt
  have l2 := h.2.1.lt
  exact ⟨⟨aggW_other (h.1.alloc _) _ (by omega), aggW_other (h.2.1.alloc _) _ (by omega), h.2.2.1, h.2.2.2.1, aggW_below (h.2.2.2.2.alloc (by omega) _) (by omega) _⟩,
    aggW_obj (L := addrC false (List.replicate 16 0)) (ObjAt.made W _ _) (by rw [addrC_length, addrC_length, h.2.2.1]; rfl) (addrC_one v L), l2⟩
theorem Q4.made {w W : World} {m : Nat} {v : Bool} {L M : List UInt8} (h : Q3 w W m v L M) : Q4 w (aggW (W.alloc (.cells #[.int .u8 0, .int .u8 0, .int .u8 0, .int .u8 0, .int .u8 0, .int .u8 0] 28)) W.heap.size (B8 M)) m W.heap.size v L M := by
  have l1 := h.1.1.lt
  have l2 := h.1.2.1.lt
  have l3 := h.2.1.lt
  exact ⟨⟨⟨aggW_other (h.1.1.alloc _) _ (by omega), aggW_other (h.1.2.1.alloc _) _ (by omega), h.1.2.2.1, h.1.2.2.2.1, aggW_below (h.1.2.2.2.2.alloc (by omega) _) (by omega) _⟩, aggW_other (h.2.1.alloc _) _ (by omega), h.2.2⟩,
    aggW_obj (L := B8 [0, 0, 0, 0, 0, 0]) (ObjAt.made W _ _) (by rw [B8_length, B8_length, h.1.2.2.2.1]; rfl) (B8_one M), l3⟩
theorem Q4.facts {w W : World} {m n : Nat} {v : Bool} {L M : List UInt8} (h : Q4 w W m n v L M) : row? W w.heap.size 0 17 = some (addrC v L) ∧ row? W (w.heap.size + 1) 0 6 = some (B8 M) ∧ row? W m 0 17 = some (addrC v L) ∧ row? W n 0 6 = some (B8 M) ∧ Q4 w W m n v L M :=
  ⟨h.1.1.row, h.1.1.mrow, obj_row (A := []) (M := addrC v L) (C := []) (by simpa using h.1.2.1) rfl (by rw [addrC_length, h.1.1.2.2.1]), obj_row (A := []) (M := B8 M) (C := []) (by simpa using h.2.1) rfl (by rw [B8_length, h.1.1.2.2.2.1]), h⟩

set_option maxRecDepth 100000 in
set_option maxHeartbeats 8000000 in
theorem prints_any (v : Bool) (l M : List UInt8) (hl : l.length = 16) (hM : M.length = 6) (w : World) (h : Env w) :
    Calls Tryz.prog 4 #[.agg (addrC v l).toArray, .agg (B8 M).toArray] w fun e w' => e = .returned (.bool true) ∧ Below w.heap.size w w' := by
  have HE := Lib.hid h; clear h
  obtain ⟨L, hLe⟩ : ∃ L, L = ownV v l := ⟨_, rfl⟩
  have hL : L.length = 16 := by rw [hLe]; exact ownV_length v l hl
  have hgood : goodV v L = true := by rw [hLe]; exact own_good v l hl
  have HO : Hid (∀ w, Calls Tryz.prog 8 #[.agg (addrC v l).toArray] w fun e w' => e = .returned (.agg (addrC v L).toArray) ∧ Below w.heap.size w w') := Lib.hid (fun w => by rw [hLe]; exact own_any v l hl w)
  have HR := Lib.hid (fun W => rprint_any v L hL W)
  have HPR := Lib.hid (fun W (hW : Env W) => print_any v L hL W hW)
  have HRM := Lib.hid (fun W => rprintMac_any M hM W)
  have HPM := Lib.hid (fun W => printMac_any M hM W)
  have hPA : ∀ W, Env W → Calls Tryz.prog 25 #[.string (Str (prtV v L))] W fun e w' => e = .returned (.tuple #[.agg (addrC v L).toArray, .int .i64 0]) ∧ Below W.heap.size W w' := fun W hW => by
    have h39 : (prtV v L).length ≤ 1000000 := by
      cases v with
      | true => have := prt6_len L; show (prt6 L).length ≤ _; omega
      | false => have := dotP_len L 4; show (dotP L 4).length ≤ _; omega
    have := parse_any (prtV v L) h39 W hW
    rw [parse_prt v L hL hgood] at this
    exact this
  have hPQ : ∀ W, Env W → Calls Tryz.prog 27 #[.string (Str (macT M))] W fun e w' => e = .returned (.tuple #[.agg (B8 M).toArray, .int .i64 0]) ∧ Below W.heap.size W w' := fun W hW => by
    have := parseMac_any (macT M) (by rw [mac_len M hM]; omega) W hW
    rw [pm_prt M hM] at this
    exact this
  have HPA := Lib.hid hPA; have HPQ := Lib.hid hPQ
  clear hPA hPQ
  have heqA : ∀ w0, (Op.equalIn 10000 24 (.agg (addrC v L).toArray) (.agg (addrC v L).toArray)).run Tryz.prog w0 = .ok true w0 := fun w0 => by
    have := eq_addr v v L L hL hL w0
    simpa using this
  have heqM : ∀ w0, (Op.equalIn 10000 28 (.agg (B8 M).toArray) (.agg (B8 M).toArray)).run Tryz.prog w0 = .ok true w0 := fun w0 => by
    have := eq_mac M M hM hM w0
    simpa using this
  have hst : ∀ t : List UInt8, (t == t) = true := fun t => by simp
  have hokA := fok_addr v L hL
  have hokM := fok_bytes M 6 hM
  have H0 := Lib.hid (Q2.start w v l M hl hM)
  have HK : Hid (∀ W m n, Q4 w W m n v L M → row? W w.heap.size 0 17 = some (addrC v L) ∧ row? W (w.heap.size + 1) 0 6 = some (B8 M) ∧ row? W m 0 17 = some (addrC v L) ∧ row? W n 0 6 = some (B8 M) ∧ Q4 w W m n v L M) := Lib.hid fun W m n h => h.facts
  generalize Str (prtV v L) = T at HR HPR HPA
  generalize Str (macT M) = U at HRM HPM HPQ
  have HL := Lib.hid hL
  clear hLe hgood hl hM hL
  go_enter Tryz.func4, Tryz.ntmps4
  go_upto_region 1 with (fail)
  generalize (w.alloc (.cells (addrC v l).toArray 24)).alloc (.cells (B8 M).toArray 28) = W at H0 ⊢
  have hr := H0.out.row
  go_upto_region 2 with (go_at_call 8; (with_reducible refine (HO.out _).mono ?_); rintro x w1 ⟨rfl, hb1⟩; have hf1 := (H0.out.below hb1).free; have H1 := Lib.hid ((H0.out.below hb1).set HL.out); clear hb1 hr)
  generalize aggW w1 w.heap.size (addrC v L) = W2 at H1 ⊢
  clear hf1
  have hr := H1.out.row
  go_upto_region 3 with (first
    | (go_at_call 26; (with_reducible refine (HR.out _).mono ?_); rintro x w3 ⟨rfl, hb3⟩; have H3 := Lib.hid (H1.out.below hb3); clear hb3 hr)
    | (go_at_call 25; (refine (HPA.out _ (HE.out.below H3.out.bel)).mono ?_); rintro x w4 ⟨rfl, hb4⟩; have hf4 := free_made w4 #[.bool false, .int .u8 0, .int .u8 0, .int .u8 0, .int .u8 0, .int .u8 0, .int .u8 0, .int .u8 0, .int .u8 0, .int .u8 0, .int .u8 0, .int .u8 0, .int .u8 0, .int .u8 0, .int .u8 0, .int .u8 0, .int .u8 0] 24 17 (by simp); have H4 := Lib.hid (Q3.made (H3.out.below hb4)); clear hb4))
  generalize aggW (w4.alloc (.cells #[.bool false, .int .u8 0, .int .u8 0, .int .u8 0, .int .u8 0, .int .u8 0, .int .u8 0, .int .u8 0, .int .u8 0, .int .u8 0, .int .u8 0, .int .u8 0, .int .u8 0, .int .u8 0, .int .u8 0, .int .u8 0, .int .u8 0] 24)) w4.heap.size _ = W5 at H4 ⊢
  clear hf4
  generalize w4.heap.size = m at H4 ⊢
  have hr := H4.out.1.mrow
  go_upto_region 4 with (first
    | (go_at_call 28; (with_reducible refine (HRM.out _).mono ?_); rintro x w6 ⟨rfl, hb6⟩; have H6 := Lib.hid (H4.out.below hb6); clear hb6 hr)
    | (go_at_call 27; (refine (HPQ.out _ (HE.out.below H6.out.1.bel)).mono ?_); rintro x w7 ⟨rfl, hb7⟩; have hf7 := free_made w7 #[.int .u8 0, .int .u8 0, .int .u8 0, .int .u8 0, .int .u8 0, .int .u8 0] 28 6 (by simp); have H7 := Lib.hid (Q4.made (H6.out.below hb7)); clear hb7))
  generalize aggW (w7.alloc (.cells #[.int .u8 0, .int .u8 0, .int .u8 0, .int .u8 0, .int .u8 0, .int .u8 0] 28)) w7.heap.size _ = W8 at H7 ⊢
  clear hf7
  generalize w7.heap.size = n at H7 ⊢
  go_region_held3 (fun W => row? W w.heap.size 0 17 = some (addrC v L) ∧ row? W (w.heap.size + 1) 0 6 = some (B8 M) ∧ row? W m 0 17 = some (addrC v L) ∧ row? W n 0 6 = some (B8 M) ∧ Q4 w W m n v L M) (first | assumption | exact HK.out _ _ _ H7.out | exact HK.out _ _ _ (H7.out.drewN 1)) (first
    | (go_at_call 29; refine (HPR.out _ (HE.out.below (Q4.bel (And.right (And.right (And.right (And.right (by assumption)))))))).mono ?_; rintro x w9 ⟨rfl, hb9⟩; have hk := HK.out _ _ _ (Q4.below (And.right (And.right (And.right (And.right (by assumption))))) hb9); clear hb9)
    | (go_at_call 26; (with_reducible refine (HR.out _).mono ?_); rintro x w9 ⟨rfl, hb9⟩; have hk := HK.out _ _ _ (Q4.below (And.right (And.right (And.right (And.right (by assumption))))) hb9); clear hb9)
    | (go_at_call 30; (with_reducible refine (HPM.out _).mono ?_); rintro x w9 ⟨rfl, hb9⟩; have hk := HK.out _ _ _ (Q4.below (And.right (And.right (And.right (And.right (by assumption))))) hb9); clear hb9)
    | (go_at_call 28; (with_reducible refine (HRM.out _).mono ?_); rintro x w9 ⟨rfl, hb9⟩; have hk := HK.out _ _ _ (Q4.below (And.right (And.right (And.right (And.right (by assumption))))) hb9); clear hb9)
    | (go_at_call 24; refine (lives3_any _ (HE.out.below (Q4.bel (And.right (And.right (And.right (And.right (by assumption)))))))).mono ?_; rintro x w9 ⟨rfl, hb9⟩; have hk := HK.out _ _ _ (Q4.below (And.right (And.right (And.right (And.right (by assumption))))) hb9); clear hb9))
  go_wp2_with fail
  go_ret
  exact ⟨rfl, hk.2.2.2.2.bel⟩
end Go.Proofs.YtmpikhpnkfnnoaaGreatDoor
